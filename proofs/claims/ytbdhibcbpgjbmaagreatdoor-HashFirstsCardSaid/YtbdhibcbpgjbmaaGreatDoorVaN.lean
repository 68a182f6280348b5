/- Package value, walked: goodWithin, Good. -/
import Derived.Test.YtbdhibcbpgjbmaaGreatDoorVaK
namespace Go.Proofs.YtbdhibcbpgjbmaaGreatDoor
open Go.RowKit Fl
set_option linter.unusedVariables false
set_option maxRecDepth 100000

theorem Arrs.at {w : World} {ok : Nat → Prop} {ao : Option Addr} {n cap k : Nat} {l : List (List Int × VV)} {p : List Int × VV} (h : Arrs w ok (.slice ao n cap) l) (hx : l[k]? = some p) :
  ∃ b off so sc u, ao = some ⟨b, off, none⟩ ∧ ok b ∧ w.cell? ⟨b, off + k * 2, none⟩ = some (.slice so p.1.length sc) ∧ w.cell? ⟨b, off + k * 2 + 1, none⟩ = some u ∧ IsArr w ok (.slice so p.1.length sc) u p := by
 obtain ⟨ao', cap', f, g, e, h1, h2, hc, hs, hv⟩ := h
 cases e
 obtain ⟨hk, e⟩ := List.getElem?_eq_some_iff.1 hx
 obtain ⟨b, off, e2, hb, c0, c1⟩ := hc k hk
 have h3 := hs k hk
 have h4 := hv k hk
 rw [e] at h3 h4
 obtain ⟨so, sc, e3, _⟩ := h3.opened
 rw [e3] at h3 c0
 exact ⟨b, off, so, sc, g k, e2, hb, c0, c1, h3, h4⟩
theorem Arrs.len {w : World} {ok : Nat → Prop} {v : Value} {l : List (List Int × VV)} (h : Arrs w ok v l) : ∃ ao cap, v = .slice ao l.length cap ∧ l.length ≤ cap ∧ cap ≤ maxLen := by
 obtain ⟨ao, cap, f, g, e, h1, h2, _⟩ := h
 exact ⟨ao, cap, e, h1, h2⟩
/-- A good array, at most d of them in one another. -/
def gA : Nat → List Int × VV → Prop
 | 0, _ => False
 | d + 1, A => prodR A.1 1048576 = ((A.2.len : Int), 0) ∧ A.2.ok ∧ A.2.nm ∧ A.2.kind = A.2.least ∧ ∀ a ∈ A.2.boxs, gA d a
theorem gA_mono {d : Nat} : ∀ {A : List Int × VV} {e : Nat}, d ≤ e → gA d A → gA e A := by
 induction d with
 | zero => intro A e _ h; exact h.elim
 | succ d ih =>
  intro A e he h
  obtain ⟨e, rfl⟩ : ∃ e', e = e' + 1 := ⟨e - 1, by omega⟩
  exact ⟨h.1, h.2.1, h.2.2.1, h.2.2.2.1, fun a ha => ih (by omega) (h.2.2.2.2 a ha)⟩

end Go.Proofs.YtbdhibcbpgjbmaaGreatDoor
