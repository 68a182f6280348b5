/- Layer 15: a part of a plain array. -/
import Derived.Test.YtbdhibcbpgjbmaaGreatDoorVaR
import Derived.Test.YtbdhibcbpgjbmaaGreatDoorFlM
namespace Go.Proofs.YtbdhibcbpgjbmaaGreatDoor
set_option maxRecDepth 100000
open Go.RowKit Fl
set_option linter.unusedVariables false

theorem take_get {α : Type} {l : List α} {k i : Nat} {x : α} (h : (l.take k)[i]? = some x) : l[i]? = some x := by
 rw [List.getElem?_take] at h
 split at h
 ·exact h
 ·cases h
theorem Its.takem {w : World} {ok : Nat → Prop} {ao : Option Addr} {n cap : Nat} {l : List PI} (h : Its w ok (.slice ao n cap) l) (k : Nat) (hk : k ≤ l.length) : Its w ok (.slice ao k cap) (l.take k) := by
 obtain ⟨ao', cap', B, e, h1, h2, hc, hp⟩ := h
 cases e
 have hl : (l.take k).length = k := by rw [List.length_take]; omega
 exact ⟨ao, cap, B, by rw [hl], by omega, h2, fun i x hx => hc i x (take_get hx), fun i x hx => hp i x (take_get hx)⟩
theorem prod_one (K : Nat) (h : K ≤ 1048576) : prodR [(K : Int)] 1048576 = ((K : Int), 0) := by
 have := (gV_gA (d := 0) (V := .chars (List.replicate K 0)) ⟨by show (List.replicate K (0 : Int)).length ≤ 1048576; simpa using h, trivial, rfl, by simp [VV.boxs]⟩).1
 simpa [VV.len] using this
/-- The first items of a plain array, as a list. -/
def fstP (p : PA) (K : Nat) : PA := .mk [(K : Int)] (p.l.take K) p.f
theorem fstP_len {p : PA} {K : Nat} (h : K ≤ p.l.length) : (fstP p K).l.length = K := by show (p.l.take K).length = K; rw [List.length_take]; omega
theorem fstP_chk {d : Nat} {p : PA} {K : Nat} (h : chk (d + 1) p = 0) (hK : K ≤ p.l.length) (hm : K ≤ 1048576) : chk (d + 1) (fstP p K) = 0 := by
 rw [chk_well] at h ⊢
 obtain ⟨h1, h2, h3, h4⟩ := h
 refine ⟨h1, h2, ?_, fun x hx => h4 x (List.mem_of_mem_take hx)⟩
 rw [fstP_len hK]
 exact prod_one K hm
theorem fstP_lo {n : Nat} {p : PA} {K : Nat} (h : lo n p) : lo n (fstP p K) := by
 cases n with
 | zero => exact h
 | succ n => exact fun x hx => h x (List.mem_of_mem_take hx)
theorem fstP_is {w : World} {ok : Nat → Prop} {sh : Value} {ao : Option Addr} {n cap K : Nat} {p : PA} (hs : Slc w ok sh 1 (ints [(K : Int)])) (hi : Its w ok (.slice ao n cap) p.l) (hK : K ≤ p.l.length) : IsP w ok (.agg #[sh, .slice ao K cap, .int .i64 p.f]) (fstP p K) :=
 IsP.of (s := [(K : Int)]) hs (hi.takem K hK)
theorem len_chk {d : Nat} {p : PA} (h : chk (d + 1) p = 0) : p.l.length ≤ 1048576 := by
 have h1 := (chk_well.1 h).2.2.1
 exact (prodR_len h1).2
end Go.Proofs.YtbdhibcbpgjbmaaGreatDoor
