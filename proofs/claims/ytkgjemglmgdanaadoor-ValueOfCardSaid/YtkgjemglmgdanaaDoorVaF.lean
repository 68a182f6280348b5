/- Plain arrays, the document's functions walked: Depth. -/
import Derived.Test.YtkgjemglmgdanaaDoorVaE
namespace Go.Proofs.YtkgjemglmgdanaaDoor
open Go.RowKit Fl
set_option linter.unusedVariables false
set_option maxRecDepth 8000

def mx (l : List Int) : Int := l.foldl max 0
theorem mx_snoc (l : List Int) (x : Int) : mx (l ++ [x]) = max (mx l) x := by simp [mx, List.foldl_append]
theorem mx_le {l : List Int} {n : Int} (h0 : 0 ≤ n) (h : ∀ x ∈ l, x ≤ n) : mx l ≤ n := by
  have : ∀ (l : List Int) (a : Int), a ≤ n → (∀ x ∈ l, x ≤ n) → l.foldl max a ≤ n := by
    intro l
    induction l with
    | nil => intro a ha _; exact ha
    | cons y l ih =>
      intro a ha hl
      rw [List.foldl_cons]
      exact ih _ (by have := hl y (List.mem_cons_self ..); omega) (fun x hx => hl x (List.mem_cons_of_mem _ hx))
  exact this l 0 h0 h
theorem mx_nonneg (l : List Int) : 0 ≤ mx l := by
  have : ∀ (l : List Int) (a : Int), 0 ≤ a → 0 ≤ l.foldl max a := by
    intro l
    induction l with
    | nil => intro a ha; exact ha
    | cons y l ih => intro a ha; rw [List.foldl_cons]; exact ih _ (by omega)
  exact this l 0 (Int.le_refl _)
theorem mx_take {α : Type} {l : List α} {f : α → Int} {k : Nat} {x : α} (h : l[k]? = some x) : mx ((l.take (k + 1)).map f) = max (mx ((l.take k).map f)) (f x) := by
  rw [ptake h, List.map_append, List.map_cons, List.map_nil, mx_snoc]
/-- How deep boxes lie in one another. -/
def depP : Nat → PA → Int
  | 0, _ => 0
  | d + 1, p => if p.f = 2 then mx (p.l.map fun x => depP d (hd x.2.2.2)) + 1 else if 0 < p.s.length then 1 else 0
theorem depP_bd (d : Nat) : ∀ p, 0 ≤ depP d p ∧ depP d p ≤ d := by
  induction d with
  | zero => intro p; simp [depP]
  | succ d ih =>
    intro p
    simp only [depP]
    split
    · have h1 := mx_nonneg (p.l.map fun x => depP d (hd x.2.2.2))
      have h2 : mx (p.l.map fun x => depP d (hd x.2.2.2)) ≤ d := mx_le (by omega) (by
        intro x hx
        obtain ⟨y, _, rfl⟩ := List.mem_map.1 hx
        exact (ih _).2)
      omega
    · split <;> omega

set_option maxHeartbeats 4000000 in
theorem rdepth_calls (d : Nat) : ∀ (ok : Nat → Prop) (p : PA) (u : Value) (w : World), d ≤ 1000 → chk d p = 0 → IsP w ok u p →
    Calls Tryd.prog 15 #[u] w (IntIs (depP d p) w) := by
  induction d with
  | zero => intro ok p u w _ hc; simp [chk] at hc
  | succ d ih =>
    intro ok p u w hd hc hp
    obtain ⟨so, sc, io, ic, rfl, hs, hit⟩ := hp.opened
    have HW := Lib.hid (chk_well.1 hc)
    have HI := Lib.hid hit
    obtain ⟨_, _, _, e2, e3, _⟩ := hs.opened
    obtain ⟨_, _, e1, e4, e5⟩ := hit.len
    cases e1
    unfold maxLen at e3 e5
    have HIH := Lib.hid ih
    clear hit hs hp ih hc
    obtain ⟨W1, hW1⟩ : ∃ W1, W1 = w.alloc (.cells #[.slice so p.s.length sc, .slice io p.l.length ic, .int .i64 p.f] 25) := ⟨_, rfl⟩
    have HA := Lib.hid (show At3 W1 w.heap.size _ _ _ by rw [hW1]; exact At3.new w _ _ _ _)
    have HB1 := Lib.hid (show Below w.heap.size w W1 by rw [hW1]; exact below_new _ _)
    obtain ⟨_, a0, a1, a2, _⟩ := HA.out
    have hfold := hW1.symm
    clear hW1
    by_cases hf : p.f = 2
    · have hf' : (p.f != 2) = false := by simpa using hf
      have HF := Lib.hid hf
      have HD := Lib.hid (show depP (d + 1) p = mx (p.l.map fun x => depP d ((Go.Proofs.YtkgjemglmgdanaaDoor.hd) x.2.2.2)) + 1 by simp only [depP]; rw [if_pos hf])
      clear hf
      go_enter Tryd.func15, Tryd.ntmps15
      go_wp2_with fail
      clear hfold
      go_loopw [3, 4] (fun dv i wr => ∃ (k : Nat) (m : Int), k ≤ p.l.length ∧ i = .int .i64 k ∧ dv = .int .i64 m ∧ m = mx ((p.l.take k).map fun x => depP d ((Go.Proofs.YtkgjemglmgdanaaDoor.hd) x.2.2.2)) ∧ 0 ≤ m ∧ m ≤ d ∧ Below W1.heap.size W1 wr) (fun _ i _ => p.l.length - (intOf i).toNat)
      case atStart => exact ⟨0, 0, by omega, rfl, rfl, rfl, by omega, by omega, Below.refl _ _⟩
      case round =>
        obtain ⟨k, m, hk, rfl, rfl, hm, hm0, hm1, hB⟩ := hrel
        obtain ⟨_, b0, b1, b2, _⟩ := HA.out.below hB
        have HB := Lib.hid hB
        have HM := Lib.hid hm
        clear hB hm
        by_cases hlt : k < p.l.length
        · have hx := List.getElem?_eq_getElem hlt
          obtain ⟨x, hxx⟩ : ∃ x, x = p.l[k] := ⟨_, rfl⟩
          rw [← hxx] at hx
          clear hxx
          have HX := Lib.hid hx
          obtain ⟨hkf, hbx2, _⟩ := HW.out.2.2.2 x (List.mem_of_getElem? hx)
          obtain ⟨q, hq, hcq⟩ := hbx2 (hkf.trans HF.out)
          obtain ⟨b, off, bo, bc, rfl, _, c0, c1, c2, c3, hbx⟩ := ((HI.out.grow HB1.out).grow HB.out).at hx
          obtain ⟨_, _, e1, e6, e7⟩ := hbx.len
          cases e1
          unfold maxLen at e7
          obtain ⟨b', off', so', sc', io', ic', rfl, _, f0, f1, f2, hP⟩ := hbx.at (k := 0) (by rw [hq]; rfl : x.2.2.2[0]? = some q)
          have hlen0 : 0 < x.2.2.2.length := by rw [hq]; simp
          have HHD := Lib.hid (show (Go.Proofs.YtkgjemglmgdanaaDoor.hd) x.2.2.2 = q from hd_at (by rw [hq]; rfl))
          have HQ := Lib.hid (HIH.out ok q _ wr (by omega) hcq hP)
          obtain ⟨n, hn⟩ : ∃ n, n = depP d q := ⟨_, rfl⟩
          rw [← hn] at HQ
          have HN := Lib.hid hn
          have hnb := depP_bd d q
          rw [← hn] at hnb
          obtain ⟨hn0, hn1⟩ := hnb
          have HT := Lib.hid (show max m n = mx ((p.l.take (k + 1)).map fun x => depP d ((Go.Proofs.YtkgjemglmgdanaaDoor.hd) x.2.2.2)) by rw [mx_take HX.out, ← HM.out, HHD.out, ← HN.out])
          clear hx hkf hbx2 hq hcq c0 c1 c2 hbx hP hn a0 a1 a2
          simp only [Nat.zero_mul, Nat.add_zero] at f0 f1 f2
          go_wp2_with fail
          refine HQ.out.mono ?_
          rintro e w3 ⟨rfl, hB3⟩
          have HB3 := Lib.hid (HB.out.trans (hB3.mono HB.out.size))
          clear hB3 c3 f0 f1 f2 b0 b1 b2
          by_cases hmn : m < n
          · have HMX := Lib.hid (show n = max m n by omega)
            go_wp2_with fail
            go_roundw
            case rel => exact ⟨k + 1, n, by omega, by go_num, rfl, by rw [← HT.out]; exact HMX.out, by omega, by omega, HB3.out⟩
            case measure => simp [intOf]; omega
          · have HMX := Lib.hid (show m = max m n by omega)
            go_wp2_with fail
            go_roundw
            case rel => exact ⟨k + 1, m, by omega, by go_num, rfl, by rw [← HT.out]; exact HMX.out, by omega, by omega, HB3.out⟩
            case measure => simp [intOf]; omega
        · have hkl : k = p.l.length := by omega
          have HM2 := Lib.hid (show m + 1 = depP (d + 1) p by rw [HD.out, HM.out, hkl, List.take_length])
          clear hkl
          go_wp2_with fail
          go_ret
          exact IntIs.mk HM2.out (HB1.out.trans (HB.out.mono HB1.out.size))
    · have hf' : (p.f != 2) = true := by simpa using hf
      have HD := Lib.hid (show depP (d + 1) p = if 0 < p.s.length then 1 else 0 by simp only [depP]; rw [if_neg hf])
      clear hf
      by_cases hsl : 0 < p.s.length
      · rw [if_pos hsl] at HD
        go_enter Tryd.func15, Tryd.ntmps15
        go_wp2_with fail
        go_ret
        exact IntIs.mk HD.out.symm HB1.out
      · rw [if_neg hsl] at HD
        go_enter Tryd.func15, Tryd.ntmps15
        go_wp2_with fail
        go_ret
        exact IntIs.mk HD.out.symm HB1.out
end Go.Proofs.YtkgjemglmgdanaaDoor
