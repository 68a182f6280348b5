/- BitvecSums, walked. -/
import Derived.Test.YtkigkcncbobhaaaDoorBvV
import Derived.Deep.RegionHeld3
namespace Go.Proofs.YtkigkcncbobhaaaDoor
open Go.RowKit
set_option linter.unusedVariables false

theorem undrew {w w1 : World} (h : Below w.drew.heap.size w.drew w1) : Below w.heap.size w w1 := ⟨h.os, h.tape, h.output, h.size, h.block⟩
theorem At2.new2 (w : World) (o : Obj) (x y : Value) (t : TypeId) : At2 ((w.alloc o).alloc (.cells #[x, y] t)) (w.heap.size + 1) x y := by
  have h := At2.new (w.alloc o) x y t
  have e : (w.alloc o).heap.size = w.heap.size + 1 := by simp
  rwa [e] at h
theorem At2.set {w : World} {b : Nat} {x y : Value} (h : At2 w b x y) (p : Addr) (v : Value) (hne : p.block ≠ b) : At2 (w.setCell p v) b x y :=
  ⟨by simpa using h.1, (World.cell?_setCell_far _ _ _ _ hne).trans h.2.1, (World.cell?_setCell_far _ _ _ _ hne).trans h.2.2.1, fun o => by simpa using h.2.2.2 o⟩
theorem At2.c0 {w : World} {b : Nat} {x y : Value} (h : At2 w b x y) : w.cell? ⟨b, 0, none⟩ = some x := h.2.1
theorem At2.c1 {w : World} {b : Nat} {x y : Value} (h : At2 w b x y) : w.cell? ⟨b, 1, none⟩ = some y := h.2.2.1
theorem At2.lt {w : World} {b : Nat} {x y : Value} (h : At2 w b x y) : b < w.heap.size := h.1
theorem At2.fz {w : World} {b : Nat} {x y : Value} (h : At2 w b x y) : ∀ o, w.frozen? ⟨b, o, none⟩ = false := h.2.2.2
theorem IsBits.drew {w : World} {v : Value} {l : List Bool} (h : IsBits w v l) : IsBits w.drew v l := h
theorem At2.drew {w : World} {b : Nat} {x y : Value} (h : At2 w b x y) : At2 w.drew b x y := h
theorem At2.ne {w : World} {b c : Nat} {x y : Value} (h : At2 w b x y) (hc : w.heap.size ≤ c) : c ≠ b := by have := h.1; omega
theorem sq_take (l : List Bool) (k j : Nat) (h : j < k) : sq (l.take k) j = sq l j := by simp [sq, h]
theorem sq_drop (l : List Bool) (k j : Nat) : sq (l.drop k) j = sq l (k + j) := by simp [sq]
theorem cnt_take (l : List Bool) (k : Nat) (h : k ≤ l.length) : cnt (sq (l.take k)) (l.take k).length = cnt (sq l) k := by
  rw [List.length_take, Nat.min_eq_left h]; exact cnt_congr _ fun j hj => sq_take l k j hj
theorem cnt_split (l : List Bool) (k : Nat) (h : k ≤ l.length) : cnt (sq l) k + cnt (sq (l.drop k)) (l.drop k).length = cnt (sq l) l.length := by
  have : cnt (sq l) l.length = cnt (sq l) (k + (l.length - k)) := by rw [show k + (l.length - k) = l.length by omega]
  rw [this, cnt_add, List.length_drop]
  congr 1
  exact cnt_congr _ fun j _ => sq_drop l k j
theorem cnt_pos_iff (F : Nat → Bool) : ∀ n, 0 < cnt F n → ∃ m, m < n ∧ F m = true ∧ ∀ j, j < m → F j = false
  | 0, h => by simp [cnt] at h
  | n + 1, h => by
    by_cases h0 : 0 < cnt F n
    · obtain ⟨m, hm, h1, h2⟩ := cnt_pos_iff F n h0
      exact ⟨m, by omega, h1, h2⟩
    · have hz : cnt F n = 0 := by omega
      have hall : ∀ j, j < n → F j = false := by
        intro j hj
        cases hF : F j
        · rfl
        · exfalso
          have : cnt F n = cnt F (j + (n - j)) := by rw [show j + (n - j) = n by omega]
          obtain ⟨d, hd⟩ : ∃ d, n - j = d + 1 := ⟨n - j - 1, by omega⟩
          rw [this, cnt_add, hd, cnt_cons] at hz
          simp [hF] at hz
      refine ⟨n, by omega, ?_, hall⟩
      rw [cnt, hz] at h
      cases hF : F n
      · rw [hF] at h; simp at h
      · rfl
theorem first_take (l : List Bool) (k : Nat) (h : k ≤ l.length) (hp : 0 < cnt (sq l) k) : firstOf (l.take k) = firstOf l := by
  obtain ⟨m, hm, h1, h2⟩ := cnt_pos_iff _ _ hp
  rw [firstOf_at l m (by omega) h2 h1, firstOf_at (l.take k) m (by simp; omega) (fun j hj => by rw [sq_take l k j (by omega)]; exact h2 j hj) (by rw [sq_take l k m hm]; exact h1)]
theorem cnt_zero_all (F : Nat → Bool) (n : Nat) (h : cnt F n = 0) : ∀ j, j < n → F j = false := by
  intro j hj
  cases hF : F j
  · rfl
  · exfalso
    have : cnt F n = cnt F (j + (n - j)) := by rw [show j + (n - j) = n by omega]
    obtain ⟨d, hd⟩ : ∃ d, n - j = d + 1 := ⟨n - j - 1, by omega⟩
    rw [this, cnt_add, hd, cnt_cons] at h
    simp [hF] at h
theorem first_drop (l : List Bool) (k : Nat) (h : k ≤ l.length) (hz : cnt (sq l) k = 0) : firstOf (l.drop k) + k = firstOf l := by
  have hlow := cnt_zero_all _ _ hz
  by_cases hp : 0 < cnt (sq (l.drop k)) (l.drop k).length
  · obtain ⟨m, hm, h1, h2⟩ := cnt_pos_iff _ _ hp
    rw [List.length_drop] at hm
    rw [firstOf_at (l.drop k) m (by simp; omega) h2 h1]
    rw [sq_drop] at h1
    rw [firstOf_at l (k + m) (by omega) (fun j hj => ?_) h1]
    · omega
    · by_cases hjk : j < k
      · exact hlow j hjk
      · have := h2 (j - k) (by omega)
        rwa [sq_drop, show k + (j - k) = j by omega] at this
  · have hz2 := cnt_zero_all _ _ (show cnt (sq (l.drop k)) (l.drop k).length = 0 by omega)
    rw [firstOf_none (l.drop k) hz2, firstOf_none l (fun j hj => ?_), List.length_drop]
    · omega
    · by_cases hjk : j < k
      · exact hlow j hjk
      · have := hz2 (j - k) (by rw [List.length_drop]; omega)
        rwa [sq_drop, show k + (j - k) = j by omega] at this

def SMid (w0 : World) (ao : Option Addr) (cap a k b : Nat) (l X Y : List Bool) (bo : Option Addr) (L bcap : Nat) (e : Exit) (a' : Act) (w : World) : Prop :=
  e = .normal ∧ ∃ (bx by' : Nat) (xo yo : Option Addr) (xcap ycap : Nat), a' = { tmps := #[.slice ao l.length cap, .int .u16 a, undef, undef, .bool false, .pointer (some ⟨b, 0, none⟩), .int .i64 k, .pointer (some ⟨bx, 0, none⟩), .pointer (some ⟨by', 0, none⟩), .slice ao l.length cap, .int .i64 l.length, .bool (decide (1500 < (l.length : Int))), undef, .slice ao l.length cap, .agg #[.int .i64 l.length, .slice bo L bcap], .int .u16 a, .int .i64 a, .slice ao l.length cap, .int .i64 l.length, .int .i64 (l.length + 1), .int .i64 k, .agg #[.int .i64 l.length, .slice bo L bcap], .int .i64 k, .agg #[.int .i64 X.length, .slice xo ((X.length + 63) / 64) xcap], .agg #[.int .i64 l.length, .slice bo L bcap], .int .i64 k, .slice ao l.length cap, .int .i64 l.length, .agg #[.int .i64 Y.length, .slice yo ((Y.length + 63) / 64) ycap], undef, undef, undef, undef, undef, undef, undef, undef, undef, undef, undef, undef, undef, undef, undef, undef, undef, undef, undef, undef, undef, undef, undef, undef, undef, undef, undef, undef, undef, undef, undef, undef, undef, undef, undef, undef, undef, undef, undef, undef, undef, undef, undef, undef, undef], defers := [] } ∧
    (w.cell? ⟨bx, 0, none⟩ = some (.int .i64 X.length) ∧ w.cell? ⟨bx, 1, none⟩ = some (.slice xo ((X.length + 63) / 64) xcap)) ∧
    (w.cell? ⟨by', 0, none⟩ = some (.int .i64 Y.length) ∧ w.cell? ⟨by', 1, none⟩ = some (.slice yo ((Y.length + 63) / 64) ycap)) ∧
    (w.cell? ⟨b, 0, none⟩ = some (.int .i64 l.length) ∧ w.cell? ⟨b, 1, none⟩ = some (.slice bo L bcap)) ∧
    IsBits w (.agg #[.int .i64 X.length, .slice xo ((X.length + 63) / 64) xcap]) X ∧ IsBits w (.agg #[.int .i64 Y.length, .slice yo ((Y.length + 63) / 64) ycap]) Y ∧ IsBits w (.agg #[.int .i64 l.length, .slice bo L bcap]) l ∧ Below w0.heap.size w0 w
theorem At2.set2 {w : World} {b : Nat} {u v : Value} (h : At2 w b u v) (x y : Value) : At2 ((w.setCell ⟨b, 0, none⟩ x).setCell ⟨b, 1, none⟩ y) b x y := by
  have e1 : (w.setCell ⟨b, 0, none⟩ x).cell? ⟨b, 1, none⟩ = some v := (World.cell?_setCell_other _ _ _ _ (by simp)).trans h.2.2.1
  exact ⟨by simpa using h.1, (World.cell?_setCell_other _ _ _ _ (by simp)).trans (World.cell?_setCell_same _ _ _ h.2.1), World.cell?_setCell_same _ _ _ e1, fun o => by simpa using h.2.2.2 o⟩
def Fin6 (w3 w' : World) (p q b : Nat) (P0 P1 Q0 Q1 B0 B1 : Value) : Prop :=
  (w'.cell? ⟨p, 0, none⟩ = some P0 ∧ w'.cell? ⟨p, 1, none⟩ = some P1) ∧ (w'.cell? ⟨q, 0, none⟩ = some Q0 ∧ w'.cell? ⟨q, 1, none⟩ = some Q1) ∧ (w'.cell? ⟨b, 0, none⟩ = some B0 ∧ w'.cell? ⟨b, 1, none⟩ = some B1) ∧
  (∀ v l, IsBits w3 v l → IsBits w' v l) ∧ (∀ w0 : World, Below w0.heap.size w0 w3 → w0.heap.size ≤ p → w0.heap.size ≤ q → Below w0.heap.size w0 w')
theorem fin_of {w3 w' : World} {p q b : Nat} {P0 P1 Q0 Q1 B0 B1 : Value} (hp : At2 w' p P0 P1) (hq : At2 w' q Q0 Q1) (hb : At2 w' b B0 B1) (h1 : ∀ v l, IsBits w3 v l → IsBits w' v l) (h2 : ∀ w0 : World, Below w0.heap.size w0 w3 → w0.heap.size ≤ p → w0.heap.size ≤ q → Below w0.heap.size w0 w') : Fin6 w3 w' p q b P0 P1 Q0 Q1 B0 B1 :=
  ⟨⟨hp.2.1, hp.2.2.1⟩, ⟨hq.2.1, hq.2.2.1⟩, ⟨hb.2.1, hb.2.2.1⟩, h1, h2⟩
theorem mid_aa {w3 : World} {b : Nat} {B0 B1 : Value} (hR : At2 w3 b B0 B1) (P0 P1 Q0 Q1 : Value) (t u : TypeId) : Fin6 w3 ((w3.alloc (.cells #[P0, P1] t)).alloc (.cells #[Q0, Q1] u)) w3.heap.size (w3.heap.size + 1) b P0 P1 Q0 Q1 B0 B1 :=
  fin_of ((At2.new _ _ _ _).alloc _) (At2.new2 _ _ _ _ _) ((hR.alloc _).alloc _) (fun v l h => (h.keep (keep_alloc _ _)).keep (keep_alloc _ _)) (fun w0 h _ _ => (h.alloc h.size _).alloc (h.alloc h.size _).size _)
theorem mid_sa {w3 : World} {p b : Nat} {B0 B1 : Value} (hZ : At2 w3 p (.int .i64 0) (.slice none 0 0)) (hR : At2 w3 b B0 B1) (hne : p ≠ b) (P0 P1 Q0 Q1 : Value) (u : TypeId) : Fin6 w3 (((w3.setCell ⟨p, 0, none⟩ P0).setCell ⟨p, 1, none⟩ P1).alloc (.cells #[Q0, Q1] u)) p w3.heap.size b P0 P1 Q0 Q1 B0 B1 := by
  have e : ((w3.setCell ⟨p, 0, none⟩ P0).setCell ⟨p, 1, none⟩ P1).heap.size = w3.heap.size := by simp
  have h := At2.new ((w3.setCell ⟨p, 0, none⟩ P0).setCell ⟨p, 1, none⟩ P1) Q0 Q1 u
  rw [e] at h
  exact fin_of ((hZ.set2 _ _).alloc _) h (((hR.set _ _ hne).set _ _ hne).alloc _) (fun v l h => (h.set2 hZ _ _).keep (keep_alloc _ _)) (fun w0 h h1 _ => (below_set2 _ _ h h1).alloc (below_set2 _ _ h h1).size _)
theorem mid_ss {w3 : World} {p q b : Nat} {B0 B1 : Value} (hZ : At2 w3 p (.int .i64 0) (.slice none 0 0)) (hY : At2 w3 q (.int .i64 0) (.slice none 0 0)) (hR : At2 w3 b B0 B1) (hne : p ≠ b) (hnq : q ≠ b) (hpq : p ≠ q) (P0 P1 Q0 Q1 : Value) : Fin6 w3 ((((w3.setCell ⟨p, 0, none⟩ P0).setCell ⟨p, 1, none⟩ P1).setCell ⟨q, 0, none⟩ Q0).setCell ⟨q, 1, none⟩ Q1) p q b P0 P1 Q0 Q1 B0 B1 := by
  have hY2 := (hY.set ⟨p, 0, none⟩ P0 hpq).set ⟨p, 1, none⟩ P1 hpq
  exact fin_of (((hZ.set2 _ _).set _ _ (Ne.symm hpq)).set _ _ (Ne.symm hpq)) (hY2.set2 _ _) ((((hR.set _ _ hne).set _ _ hne).set _ _ hnq).set _ _ hnq) (fun v l h => (h.set2 hZ _ _).set2 hY2 _ _) (fun w0 h h1 h2 => below_set2 _ _ (below_set2 _ _ h h1) h2)
theorem SMid.of {w0 w3 w' : World} {ao : Option Addr} {cap a k b bx by' : Nat} {l X Y : List Bool} {bo xo yo : Option Addr} {L bcap xcap ycap : Nat} (h : Fin6 w3 w' bx by' b (.int .i64 X.length) (.slice xo ((X.length + 63) / 64) xcap) (.int .i64 Y.length) (.slice yo ((Y.length + 63) / 64) ycap) (.int .i64 l.length) (.slice bo L bcap)) (hx : IsBits w3 (.agg #[.int .i64 X.length, .slice xo ((X.length + 63) / 64) xcap]) X) (hy : IsBits w3 (.agg #[.int .i64 Y.length, .slice yo ((Y.length + 63) / 64) ycap]) Y) (hl : IsBits w3 (.agg #[.int .i64 l.length, .slice bo L bcap]) l) (hB : Below w0.heap.size w0 w3) (h1 : w0.heap.size ≤ bx) (h2 : w0.heap.size ≤ by') :
    SMid w0 ao cap a k b l X Y bo L bcap .normal { tmps := #[.slice ao l.length cap, .int .u16 a, undef, undef, .bool false, .pointer (some ⟨b, 0, none⟩), .int .i64 k, .pointer (some ⟨bx, 0, none⟩), .pointer (some ⟨by', 0, none⟩), .slice ao l.length cap, .int .i64 l.length, .bool (decide (1500 < (l.length : Int))), undef, .slice ao l.length cap, .agg #[.int .i64 l.length, .slice bo L bcap], .int .u16 a, .int .i64 a, .slice ao l.length cap, .int .i64 l.length, .int .i64 (l.length + 1), .int .i64 k, .agg #[.int .i64 l.length, .slice bo L bcap], .int .i64 k, .agg #[.int .i64 X.length, .slice xo ((X.length + 63) / 64) xcap], .agg #[.int .i64 l.length, .slice bo L bcap], .int .i64 k, .slice ao l.length cap, .int .i64 l.length, .agg #[.int .i64 Y.length, .slice yo ((Y.length + 63) / 64) ycap], undef, undef, undef, undef, undef, undef, undef, undef, undef, undef, undef, undef, undef, undef, undef, undef, undef, undef, undef, undef, undef, undef, undef, undef, undef, undef, undef, undef, undef, undef, undef, undef, undef, undef, undef, undef, undef, undef, undef, undef, undef, undef, undef, undef, undef], defers := [] } w' :=
  ⟨rfl, _, _, _, _, _, _, rfl, h.1, h.2.1, h.2.2.1, h.2.2.2.1 _ _ hx, h.2.2.2.1 _ _ hy, h.2.2.2.1 _ _ hl, h.2.2.2.2 _ hB h1 h2⟩
theorem SMid.fo {w0 w3 w' : World} {ao : Option Addr} {cap a k b bx by' : Nat} {l X Y : List Bool} {bo xo yo : Option Addr} {L bcap xcap ycap : Nat} (h : Fin6 w3 w' by' bx b (.int .i64 Y.length) (.slice yo ((Y.length + 63) / 64) ycap) (.int .i64 X.length) (.slice xo ((X.length + 63) / 64) xcap) (.int .i64 l.length) (.slice bo L bcap)) (hx : IsBits w3 (.agg #[.int .i64 X.length, .slice xo ((X.length + 63) / 64) xcap]) X) (hy : IsBits w3 (.agg #[.int .i64 Y.length, .slice yo ((Y.length + 63) / 64) ycap]) Y) (hl : IsBits w3 (.agg #[.int .i64 l.length, .slice bo L bcap]) l) (hB : Below w0.heap.size w0 w3) (h1 : w0.heap.size ≤ by') (h2 : w0.heap.size ≤ bx) :
    SMid w0 ao cap a k b l X Y bo L bcap .normal { tmps := #[.slice ao l.length cap, .int .u16 a, undef, undef, .bool false, .pointer (some ⟨b, 0, none⟩), .int .i64 k, .pointer (some ⟨bx, 0, none⟩), .pointer (some ⟨by', 0, none⟩), .slice ao l.length cap, .int .i64 l.length, .bool (decide (1500 < (l.length : Int))), undef, .slice ao l.length cap, .agg #[.int .i64 l.length, .slice bo L bcap], .int .u16 a, .int .i64 a, .slice ao l.length cap, .int .i64 l.length, .int .i64 (l.length + 1), .int .i64 k, .agg #[.int .i64 l.length, .slice bo L bcap], .int .i64 k, .agg #[.int .i64 X.length, .slice xo ((X.length + 63) / 64) xcap], .agg #[.int .i64 l.length, .slice bo L bcap], .int .i64 k, .slice ao l.length cap, .int .i64 l.length, .agg #[.int .i64 Y.length, .slice yo ((Y.length + 63) / 64) ycap], undef, undef, undef, undef, undef, undef, undef, undef, undef, undef, undef, undef, undef, undef, undef, undef, undef, undef, undef, undef, undef, undef, undef, undef, undef, undef, undef, undef, undef, undef, undef, undef, undef, undef, undef, undef, undef, undef, undef, undef, undef, undef, undef, undef, undef], defers := [] } w' :=
  ⟨rfl, _, _, _, _, _, _, rfl, h.2.1, h.1, h.2.2.1, h.2.2.2.1 _ _ hx, h.2.2.2.1 _ _ hy, h.2.2.2.1 _ _ hl, h.2.2.2.2 _ hB h1 h2⟩
theorem cutlo (v : Value) (l X : List Bool) (k : Nat) (hk : k ≤ l.length) (hX : X = l.take k) (w : World) (hv : IsBits w v l) (hl : l.length ≤ 1048576) :
    Calls Tryd.prog 30 #[v, .int .i64 0, .int .i64 k] w fun e w' => ∃ v', e = .returned v' ∧ IsBits w' v' X ∧ Below w.heap.size w w' := by
  have h := cut_any v l 0 (k : Int) w 0 k (by unfold into; split <;> (try split) <;> omega) (by unfold into; split <;> (try split) <;> omega) hv hl
  rw [List.drop_zero, ← hX] at h
  exact h
theorem cuthi (v : Value) (l Y : List Bool) (k : Nat) (hk : k ≤ l.length) (hY : Y = l.drop k) (w : World) (hv : IsBits w v l) (hl : l.length ≤ 1048576) :
    Calls Tryd.prog 30 #[v, .int .i64 k, .int .i64 l.length] w fun e w' => ∃ v', e = .returned v' ∧ IsBits w' v' Y ∧ Below w.heap.size w w' := by
  have h := cut_any v l (k : Int) (l.length : Int) w k l.length (by unfold into; split <;> (try split) <;> omega) (by unfold into; split <;> (try split) <;> omega) hv hl
  rw [List.take_length, ← hY] at h
  exact h

set_option maxHeartbeats 8000000 in
theorem sums_calls (v : Value) (l : List Bool) (a : Nat) (ha : a < 65536) (w : World) (hv : RowC w v (bools l)) (hl : l.length ≤ maxLen) (hT : TabAt w) :
    Calls Tryd.prog 8 #[v, .int .u16 a] w fun e w' => e = .returned (.bool true) ∧ Below w.heap.size w w' := by
  unfold maxLen at hl
  have HT := Lib.hid hT
  have HS := Lib.hid (hv.1.sl)
  obtain ⟨ao, cap, rfl, hcap, hcm, hcells⟩ := hv.opened
  rw [bools_len] at HS hcap ⊢
  clear hv hT hcells
  by_cases hbig : 1500 < l.length
  · go_enter Tryd.func8, Tryd.ntmps8
    go_wp2_with fail
    refine (awake_calls w HT.out).mono ?_
    rintro e w1 ⟨rfl, hB⟩
    have HB := Lib.hid hB
    clear hB
    go_wp2
    go_ret
    exact ⟨rfl, HB.out⟩
  · have hl2 : l.length ≤ 1048576 := by omega
    obtain ⟨k, hk⟩ : ∃ k : Nat, (a : Int) % ((l.length : Int) + 1) = (k : Int) := ⟨a % (l.length + 1), by simp⟩
    have hk' : k ≤ l.length := by
      have h1 : (0 : Int) ≤ (a : Int) % ((l.length : Int) + 1) := Int.emod_nonneg _ (by omega)
      have h2 : (a : Int) % ((l.length : Int) + 1) < (l.length : Int) + 1 := Int.emod_lt_of_pos _ (by omega)
      omega
    obtain ⟨X, hX⟩ : ∃ X, X = l.take k := ⟨_, rfl⟩
    obtain ⟨Y, hY⟩ : ∃ Y, Y = l.drop k := ⟨_, rfl⟩
    have HXT := Lib.hid hX
    have HYT := Lib.hid hY
    have HXE : Hid (X = (l.take k).drop 0) := Lib.hid (by rw [hX]; simp)
    have HYE : Hid (Y = (l.take l.length).drop k) := Lib.hid (by rw [hY, List.take_length])
    have HXL : Hid (X.length ≤ 1048576) := Lib.hid (by rw [hX]; simp; omega)
    have HYL : Hid (Y.length ≤ 1048576) := Lib.hid (by rw [hY]; simp; omega)
    have HI0 : Hid (into 0 0 l.length = ((0 : Nat) : Int)) := Lib.hid (by unfold into; split <;> (try split) <;> omega)
    have HI1 : Hid (∀ z : Int, z ≤ 0 → 0 ≤ z → into (k : Int) z l.length = (k : Int)) := Lib.hid (fun z h1 h2 => by unfold into; split <;> (try split) <;> omega)
    have HI1 : Hid (into (k : Int) ((0 : Nat) : Int) l.length = (k : Int)) := Lib.hid (HI1.out _ (by omega) (by omega))
    have HI2 : Hid (into (l.length : Int) (k : Int) l.length = ((l.length : Nat) : Int)) := Lib.hid (by unfold into; split <;> (try split) <;> omega)
    have HMK : Hid (min (max (k : Int) 0) (l.length : Int) = (k : Int)) := Lib.hid (by omega)
    obtain ⟨cx, hcx⟩ : ∃ c, cnt (sq l) k = c := ⟨_, rfl⟩
    obtain ⟨cy, hcy⟩ : ∃ c, cnt (sq Y) Y.length = c := ⟨_, rfl⟩
    obtain ⟨cb, hcb⟩ : ∃ c, cnt (sq l) l.length = c := ⟨_, rfl⟩
    have HRK := Lib.hid hcx
    have HCX : Hid (cnt (sq X) X.length = cx) := Lib.hid (by rw [hX, cnt_take l k hk', hcx])
    have HCY := Lib.hid hcy
    have HCB := Lib.hid hcb
    have hsum : (cx : Int) + (cy : Int) = (cb : Int) := by
      have := cnt_split l k hk'
      rw [hcx, ← hY, hcy, hcb] at this; omega
    have hcbl := cnt_le (sq l) l.length
    rw [hcb] at hcbl
    have qcb : IntKind.i64.wrap (cb : Int) = cb := IntWalk.i64_in _ (by omega)
    obtain ⟨fb, hfb⟩ : ∃ f, firstOf l = f := ⟨_, rfl⟩
    have HFB := Lib.hid hfb
    have hktm : (a : Int).tmod ((l.length : Int) + 1) = (k : Int) := by rw [Int.tmod_eq_emod_of_nonneg (by omega)]; exact hk
    have hfl : fb ≤ l.length := by
      rw [← hfb]
      by_cases hp : 0 < cnt (sq l) l.length
      · obtain ⟨m, hm, h1, h2⟩ := cnt_pos_iff _ _ hp
        rw [firstOf_at l m hm h2 h1]; omega
      · rw [firstOf_none l (cnt_zero_all _ _ (by omega))]; exact Nat.le_refl _
    have qfb : IntKind.i64.wrap (fb : Int) = fb := IntWalk.i64_in _ (by omega)
    have s1 : ((cx : Int) == (cx : Int)) = true := by simp
    have s2 : ((cb : Int) == (cb : Int)) = true := by simp
    have s3 : ((fb : Int) == (fb : Int)) = true := by simp
    by_cases hz : cx = 0
    · obtain ⟨fy, hfy⟩ : ∃ f, firstOf Y = f := ⟨_, rfl⟩
      have HFY := Lib.hid hfy
      have hff : (fy : Int) + (k : Int) = (fb : Int) := by
        have := first_drop l k hk' (by rw [hcx, hz])
        rw [← hY, hfy, hfb] at this; omega
      have z1 : ((cx : Int) == 0) = true := by simp; omega
      have z3 : (0 < cx) = False := eq_false (by omega)
      clear hX hY hcx hcy hcb hfb hfy hz
      go_enter Tryd.func8, Tryd.ntmps8
      go_wp2_with fail
      refine (pack_calls _ l w HS.out hl2).mono ?_
      rintro e w1 ⟨v1, rfl, hb, hB⟩
      obtain ⟨bo, bcap, rfl, _⟩ := hb.opened
      obtain ⟨L, hL⟩ : ∃ L, (l.length + 63) / 64 = L := ⟨_, rfl⟩
      rw [hL] at hb ⊢
      obtain ⟨W0, hW0⟩ : ∃ W0, W0 = w1.alloc (.cells #[.int .i64 l.length, .slice bo L bcap] 26) := ⟨_, rfl⟩
      have HR1 : Hid (At2 W0 w1.heap.size (.int .i64 l.length) (.slice bo L bcap)) := Lib.hid (by rw [hW0]; exact At2.new _ _ _ _)
      have HL1 : Hid (IsBits W0 (.agg #[.int .i64 l.length, .slice bo L bcap]) l) := Lib.hid (by rw [hW0]; exact hb.keep (keep_alloc _ _))
      have HB1 : Hid (Below w.heap.size w W0) := Lib.hid (by rw [hW0]; exact (hB.alloc hB.size _))
      have hp := HR1.out
      clear hb hB hL
      go_wp2
      rw [← hW0]
      clear hW0
      obtain ⟨pl, p0, p1, pf⟩ := hp
      clear pf
      have HLd : Hid (IsBits W0.drew (.agg #[.int .i64 l.length, .slice bo L bcap]) l) := Lib.hid HL1.out
      have HRd : Hid (At2 W0.drew w1.heap.size (.int .i64 l.length) (.slice bo L bcap)) := Lib.hid HR1.out
      have HBd : Hid (Below w.heap.size w W0.drew) := Lib.hid HB1.out.drew
      have HG0 : Hid (w.heap.size ≤ W0.heap.size) := Lib.hid HB1.out.size
      refine Code.wp_mono (fun e a' w' (hmid : SMid w ao cap a k w1.heap.size l X Y bo L bcap e a' w') => ?_) ?_
      case' refine_2 => go_region_held3 (fun w' => w'.cell? ⟨w1.heap.size, 0, none⟩ = some (.int .i64 (l.length : Int)) ∧ w'.cell? ⟨w1.heap.size, 1, none⟩ = some (.slice bo L bcap))
        ((first | with_reducible exact ⟨At2.c0 ((HR1.out)), At2.c1 ((HR1.out))⟩ | with_reducible exact ⟨At2.c0 (((HR1.out).alloc _)), At2.c1 (((HR1.out).alloc _))⟩ | with_reducible exact ⟨At2.c0 ((((HR1.out).alloc _).alloc _)), At2.c1 ((((HR1.out).alloc _).alloc _))⟩ | with_reducible exact ⟨At2.c0 (HRd.out), At2.c1 (HRd.out)⟩ | with_reducible exact ⟨At2.c0 ((HR2.out)), At2.c1 ((HR2.out))⟩ | with_reducible exact ⟨At2.c0 (((HR2.out).alloc _)), At2.c1 (((HR2.out).alloc _))⟩ | with_reducible exact ⟨At2.c0 ((((HR2.out).alloc _).alloc _)), At2.c1 ((((HR2.out).alloc _).alloc _))⟩ | with_reducible exact ⟨At2.c0 ((HR3.out)), At2.c1 ((HR3.out))⟩ | with_reducible exact ⟨At2.c0 (((HR3.out).alloc _)), At2.c1 (((HR3.out).alloc _))⟩ | with_reducible exact ⟨At2.c0 ((((HR3.out).alloc _).alloc _)), At2.c1 ((((HR3.out).alloc _).alloc _))⟩ | go_keep))
        ((first
        | (go_at_call 30; (with_reducible refine (cutlo _ l X k hk' HXT.out _ ?_ hl2).mono ?_); with_reducible exact IsBits.drew (HL1.out); rintro e w2 ⟨v2, rfl, hb, hB⟩; obtain ⟨xo, xcap, hxe, _⟩ := hb.opened; subst hxe; have HX2 := Lib.hid hb; have HL2 := Lib.hid ((IsBits.drew (HL1.out)).keep (keep_below hB)); have HR2 := Lib.hid ((At2.drew (HR1.out)).below hB); have HB2 := Lib.hid (bthen' ((HB1.out).drew) hB); clear hb hB)
        | (go_at_call 30; (with_reducible refine (cutlo _ l X k hk' HXT.out _ ?_ hl2).mono ?_); with_reducible exact IsBits.drew ((HL1.out).keep (keep_alloc _ _)); rintro e w2 ⟨v2, rfl, hb, hB⟩; obtain ⟨xo, xcap, hxe, _⟩ := hb.opened; subst hxe; have HX2 := Lib.hid hb; have HL2 := Lib.hid ((IsBits.drew ((HL1.out).keep (keep_alloc _ _))).keep (keep_below hB)); have HR2 := Lib.hid ((At2.drew ((HR1.out).alloc _)).below hB); have HB2 := Lib.hid (bthen' (((HB1.out).alloc (HB1.out).size _).drew) hB); have HZa2 : Hid (At2 w2 W0.heap.size (.int .i64 0) (.slice none 0 0)) := Lib.hid (At2.below (At2.drew (At2.new _ _ _ _)) hB); have HNa2 : Hid (W0.heap.size ≠ w1.heap.size) := Lib.hid (At2.ne HR1.out (Nat.le_refl _)); clear hb hB)
        | (go_at_call 30; (with_reducible refine (cutlo _ l X k hk' HXT.out _ ?_ hl2).mono ?_); with_reducible exact IsBits.drew (((HL1.out).keep (keep_alloc _ _)).keep (keep_alloc _ _)); rintro e w2 ⟨v2, rfl, hb, hB⟩; obtain ⟨xo, xcap, hxe, _⟩ := hb.opened; subst hxe; have HX2 := Lib.hid hb; have HL2 := Lib.hid ((IsBits.drew (((HL1.out).keep (keep_alloc _ _)).keep (keep_alloc _ _))).keep (keep_below hB)); have HR2 := Lib.hid ((At2.drew (((HR1.out).alloc _).alloc _)).below hB); have HB2 := Lib.hid (bthen' ((((HB1.out).alloc (HB1.out).size _).alloc ((HB1.out).alloc (HB1.out).size _).size _).drew) hB); have HZa2 : Hid (At2 w2 W0.heap.size (.int .i64 0) (.slice none 0 0)) := Lib.hid (At2.below (At2.drew ((At2.new _ _ _ _).alloc _)) hB); have HNa2 : Hid (W0.heap.size ≠ w1.heap.size) := Lib.hid (At2.ne HR1.out (Nat.le_refl _)); have HZb2 : Hid (At2 w2 (W0.heap.size + 1) (.int .i64 0) (.slice none 0 0)) := Lib.hid (At2.below (At2.drew (At2.new2 _ _ _ _ _)) hB); have HNb2 : Hid ((W0.heap.size + 1) ≠ w1.heap.size) := Lib.hid (At2.ne HR1.out (Nat.le_succ _)); clear hb hB)
        | (have hza := HZa2; have hzb := HZb2; go_at_call 30; (with_reducible refine (cuthi _ l Y k hk' HYT.out _ ?_ hl2).mono ?_); with_reducible exact HL2.out; rintro e w3 ⟨v3, rfl, hb, hB⟩; obtain ⟨yo, ycap, hye, _⟩ := hb.opened; subst hye; have HY3 := Lib.hid hb; have HX3 := Lib.hid ((HX2.out).keep (keep_below hB)); have HL3 := Lib.hid ((HL2.out).keep (keep_below hB)); have HR3 := Lib.hid ((HR2.out).below hB); have HB3 := Lib.hid (bthen' (HB2.out) hB); have HZa3 := Lib.hid ((HZa2.out).below hB); have hna := HNa2.out; have HZb3 := Lib.hid ((HZb2.out).below hB); have hnb := HNb2.out; have zla := At2.lt HZa3.out; have z0a := At2.c0 HZa3.out; have z1a := At2.c1 HZa3.out; have zfa := At2.fz HZa3.out; have zlb := At2.lt HZb3.out; have z0b := At2.c0 HZb3.out; have z1b := At2.c1 HZb3.out; have zfb := At2.fz HZb3.out; have hla : W0.heap.size ≠ w3.heap.size := Nat.ne_of_lt zla; have hma : w3.heap.size ≠ W0.heap.size := Nat.ne_of_gt zla; have hlb : (W0.heap.size + 1) ≠ w3.heap.size := Nat.ne_of_lt zlb; have hmb : w3.heap.size ≠ (W0.heap.size + 1) := Nat.ne_of_gt zlb; have hga : w.heap.size ≤ W0.heap.size := HB1.out.size; have hgb : w.heap.size ≤ (W0.heap.size + 1) := Nat.le_succ_of_le HB1.out.size; have hab : W0.heap.size ≠ (W0.heap.size + 1) := Nat.ne_of_lt (Nat.lt_succ_self _); have hba : (W0.heap.size + 1) ≠ W0.heap.size := Nat.ne_of_gt (Nat.lt_succ_self _); have r0 := At2.c0 HR3.out; have r1 := At2.c1 HR3.out; have hn3 : w3.heap.size ≠ w1.heap.size := At2.ne HR3.out (Nat.le_refl _); have hn4 : w3.heap.size + 1 ≠ w1.heap.size := At2.ne HR3.out (Nat.le_succ _); clear hb hB)
        | (have hza := HZa2; go_at_call 30; (with_reducible refine (cuthi _ l Y k hk' HYT.out _ ?_ hl2).mono ?_); with_reducible exact HL2.out; rintro e w3 ⟨v3, rfl, hb, hB⟩; obtain ⟨yo, ycap, hye, _⟩ := hb.opened; subst hye; have HY3 := Lib.hid hb; have HX3 := Lib.hid ((HX2.out).keep (keep_below hB)); have HL3 := Lib.hid ((HL2.out).keep (keep_below hB)); have HR3 := Lib.hid ((HR2.out).below hB); have HB3 := Lib.hid (bthen' (HB2.out) hB); have HZa3 := Lib.hid ((HZa2.out).below hB); have hna := HNa2.out; have zla := At2.lt HZa3.out; have z0a := At2.c0 HZa3.out; have z1a := At2.c1 HZa3.out; have zfa := At2.fz HZa3.out; have hla : W0.heap.size ≠ w3.heap.size := Nat.ne_of_lt zla; have hma : w3.heap.size ≠ W0.heap.size := Nat.ne_of_gt zla; have hga : w.heap.size ≤ W0.heap.size := HB1.out.size; have r0 := At2.c0 HR3.out; have r1 := At2.c1 HR3.out; have hn3 : w3.heap.size ≠ w1.heap.size := At2.ne HR3.out (Nat.le_refl _); have hn4 : w3.heap.size + 1 ≠ w1.heap.size := At2.ne HR3.out (Nat.le_succ _); clear hb hB)
        | (have hza := HZa2; go_at_call 30; (with_reducible refine (cuthi _ l Y k hk' HYT.out _ ?_ hl2).mono ?_); with_reducible exact (HL2.out).keep (keep_alloc _ _); rintro e w3 ⟨v3, rfl, hb, hB⟩; obtain ⟨yo, ycap, hye, _⟩ := hb.opened; subst hye; have HY3 := Lib.hid hb; have HX3 := Lib.hid (((HX2.out).keep (keep_alloc _ _)).keep (keep_below hB)); have HL3 := Lib.hid (((HL2.out).keep (keep_alloc _ _)).keep (keep_below hB)); have HR3 := Lib.hid (((HR2.out).alloc _).below hB); have HB3 := Lib.hid (bthen' ((HB2.out).alloc (HB2.out).size _) hB); have HZa3 := Lib.hid (((HZa2.out).alloc _).below hB); have hna := HNa2.out; have HZb3 : Hid (At2 w3 w2.heap.size (.int .i64 0) (.slice none 0 0)) := Lib.hid (At2.below (At2.new _ _ _ _) hB); have hnb : w2.heap.size ≠ w1.heap.size := At2.ne HR2.out (Nat.le_refl _); have zla := At2.lt HZa3.out; have z0a := At2.c0 HZa3.out; have z1a := At2.c1 HZa3.out; have zfa := At2.fz HZa3.out; have zlb := At2.lt HZb3.out; have z0b := At2.c0 HZb3.out; have z1b := At2.c1 HZb3.out; have zfb := At2.fz HZb3.out; have hla : W0.heap.size ≠ w3.heap.size := Nat.ne_of_lt zla; have hma : w3.heap.size ≠ W0.heap.size := Nat.ne_of_gt zla; have hlb : w2.heap.size ≠ w3.heap.size := Nat.ne_of_lt zlb; have hmb : w3.heap.size ≠ w2.heap.size := Nat.ne_of_gt zlb; have hab : W0.heap.size ≠ w2.heap.size := Nat.ne_of_lt (At2.lt HZa2.out); have hba : w2.heap.size ≠ W0.heap.size := Nat.ne_of_gt (At2.lt HZa2.out); have hga : w.heap.size ≤ W0.heap.size := HB1.out.size; have hgb : w.heap.size ≤ w2.heap.size := HB2.out.size; have r0 := At2.c0 HR3.out; have r1 := At2.c1 HR3.out; have hn3 : w3.heap.size ≠ w1.heap.size := At2.ne HR3.out (Nat.le_refl _); have hn4 : w3.heap.size + 1 ≠ w1.heap.size := At2.ne HR3.out (Nat.le_succ _); clear hb hB)
        | (go_at_call 30; (with_reducible refine (cuthi _ l Y k hk' HYT.out _ ?_ hl2).mono ?_); with_reducible exact HL2.out; rintro e w3 ⟨v3, rfl, hb, hB⟩; obtain ⟨yo, ycap, hye, _⟩ := hb.opened; subst hye; have HY3 := Lib.hid hb; have HX3 := Lib.hid ((HX2.out).keep (keep_below hB)); have HL3 := Lib.hid ((HL2.out).keep (keep_below hB)); have HR3 := Lib.hid ((HR2.out).below hB); have HB3 := Lib.hid (bthen' (HB2.out) hB); have r0 := At2.c0 HR3.out; have r1 := At2.c1 HR3.out; have hn3 : w3.heap.size ≠ w1.heap.size := At2.ne HR3.out (Nat.le_refl _); have hn4 : w3.heap.size + 1 ≠ w1.heap.size := At2.ne HR3.out (Nat.le_succ _); clear hb hB)
        | (go_at_call 30; (with_reducible refine (cuthi _ l Y k hk' HYT.out _ ?_ hl2).mono ?_); with_reducible exact (HL2.out).keep (keep_alloc _ _); rintro e w3 ⟨v3, rfl, hb, hB⟩; obtain ⟨yo, ycap, hye, _⟩ := hb.opened; subst hye; have HY3 := Lib.hid hb; have HX3 := Lib.hid (((HX2.out).keep (keep_alloc _ _)).keep (keep_below hB)); have HL3 := Lib.hid (((HL2.out).keep (keep_alloc _ _)).keep (keep_below hB)); have HR3 := Lib.hid (((HR2.out).alloc _).below hB); have HB3 := Lib.hid (bthen' ((HB2.out).alloc (HB2.out).size _) hB); have HZa3 : Hid (At2 w3 w2.heap.size (.int .i64 0) (.slice none 0 0)) := Lib.hid (At2.below (At2.new _ _ _ _) hB); have hna : w2.heap.size ≠ w1.heap.size := At2.ne HR2.out (Nat.le_refl _); have zla := At2.lt HZa3.out; have z0a := At2.c0 HZa3.out; have z1a := At2.c1 HZa3.out; have zfa := At2.fz HZa3.out; have hla : w2.heap.size ≠ w3.heap.size := Nat.ne_of_lt zla; have hma : w3.heap.size ≠ w2.heap.size := Nat.ne_of_gt zla; have hga : w.heap.size ≤ w2.heap.size := HB2.out.size; have r0 := At2.c0 HR3.out; have r1 := At2.c1 HR3.out; have hn3 : w3.heap.size ≠ w1.heap.size := At2.ne HR3.out (Nat.le_refl _); have hn4 : w3.heap.size + 1 ≠ w1.heap.size := At2.ne HR3.out (Nat.le_succ _); clear hb hB)
        | (go_at_call 30; (with_reducible refine (cuthi _ l Y k hk' HYT.out _ ?_ hl2).mono ?_); with_reducible exact ((HL2.out).keep (keep_alloc _ _)).keep (keep_alloc _ _); rintro e w3 ⟨v3, rfl, hb, hB⟩; obtain ⟨yo, ycap, hye, _⟩ := hb.opened; subst hye; have HY3 := Lib.hid hb; have HX3 := Lib.hid ((((HX2.out).keep (keep_alloc _ _)).keep (keep_alloc _ _)).keep (keep_below hB)); have HL3 := Lib.hid ((((HL2.out).keep (keep_alloc _ _)).keep (keep_alloc _ _)).keep (keep_below hB)); have HR3 := Lib.hid ((((HR2.out).alloc _).alloc _).below hB); have HB3 := Lib.hid (bthen' (((HB2.out).alloc (HB2.out).size _).alloc ((HB2.out).alloc (HB2.out).size _).size _) hB); have HZa3 : Hid (At2 w3 w2.heap.size (.int .i64 0) (.slice none 0 0)) := Lib.hid (At2.below ((At2.new _ _ _ _).alloc _) hB); have hna : w2.heap.size ≠ w1.heap.size := At2.ne HR2.out (Nat.le_refl _); have HZb3 : Hid (At2 w3 (w2.heap.size + 1) (.int .i64 0) (.slice none 0 0)) := Lib.hid (At2.below (At2.new2 _ _ _ _ _) hB); have hnb : (w2.heap.size + 1) ≠ w1.heap.size := At2.ne HR2.out (Nat.le_succ _); have zla := At2.lt HZa3.out; have z0a := At2.c0 HZa3.out; have z1a := At2.c1 HZa3.out; have zfa := At2.fz HZa3.out; have zlb := At2.lt HZb3.out; have z0b := At2.c0 HZb3.out; have z1b := At2.c1 HZb3.out; have zfb := At2.fz HZb3.out; have hla : w2.heap.size ≠ w3.heap.size := Nat.ne_of_lt zla; have hma : w3.heap.size ≠ w2.heap.size := Nat.ne_of_gt zla; have hlb : (w2.heap.size + 1) ≠ w3.heap.size := Nat.ne_of_lt zlb; have hmb : w3.heap.size ≠ (w2.heap.size + 1) := Nat.ne_of_gt zlb; have hga : w.heap.size ≤ w2.heap.size := HB2.out.size; have hgb : w.heap.size ≤ (w2.heap.size + 1) := Nat.le_succ_of_le HB2.out.size; have hab : w2.heap.size ≠ (w2.heap.size + 1) := Nat.ne_of_lt (Nat.lt_succ_self _); have hba : (w2.heap.size + 1) ≠ w2.heap.size := Nat.ne_of_gt (Nat.lt_succ_self _); have r0 := At2.c0 HR3.out; have r1 := At2.c1 HR3.out; have hn3 : w3.heap.size ≠ w1.heap.size := At2.ne HR3.out (Nat.le_refl _); have hn4 : w3.heap.size + 1 ≠ w1.heap.size := At2.ne HR3.out (Nat.le_succ _); clear hb hB)))
      · with_reducible exact SMid.of (mid_aa HR3.out _ _ _ _ _ _) HX3.out HY3.out HL3.out HB3.out HB3.out.size (Nat.le_succ_of_le HB3.out.size)
      · with_reducible exact SMid.fo (mid_aa HR3.out _ _ _ _ _ _) HX3.out HY3.out HL3.out HB3.out HB3.out.size (Nat.le_succ_of_le HB3.out.size)
      · with_reducible exact SMid.of (mid_sa HZa3.out HR3.out hna _ _ _ _ _) HX3.out HY3.out HL3.out HB3.out hga HB3.out.size
      · with_reducible exact SMid.of (mid_ss HZa3.out HZb3.out HR3.out hna hnb hab _ _ _ _) HX3.out HY3.out HL3.out HB3.out hga hgb
      · with_reducible exact SMid.fo (mid_sa HZa3.out HR3.out hna _ _ _ _ _) HX3.out HY3.out HL3.out HB3.out hga HB3.out.size
      · with_reducible exact SMid.of (mid_ss HZb3.out HZa3.out HR3.out hnb hna hba _ _ _ _) HX3.out HY3.out HL3.out HB3.out hgb hga
      · with_reducible exact SMid.of (mid_sa HZa3.out HR3.out hna _ _ _ _ _) HX3.out HY3.out HL3.out HB3.out hga HB3.out.size
      · with_reducible exact SMid.of (mid_ss HZa3.out HZb3.out HR3.out hna hnb hab _ _ _ _) HX3.out HY3.out HL3.out HB3.out hga hgb
      · with_reducible exact SMid.of (mid_ss HZa3.out HZb3.out HR3.out hna hnb hab _ _ _ _) HX3.out HY3.out HL3.out HB3.out hga hgb
      · with_reducible exact SMid.fo (mid_sa HZa3.out HR3.out hna _ _ _ _ _) HX3.out HY3.out HL3.out HB3.out hga HB3.out.size
      · with_reducible exact SMid.of (mid_ss HZb3.out HZa3.out HR3.out hnb hna hba _ _ _ _) HX3.out HY3.out HL3.out HB3.out hgb hga
      · with_reducible exact SMid.of (mid_ss HZb3.out HZa3.out HR3.out hnb hna hba _ _ _ _) HX3.out HY3.out HL3.out HB3.out hgb hga
      obtain ⟨rfl, bx, by', xo, yo, xcap, ycap, rfl, ⟨xp0, xp1⟩, ⟨yp0, yp1⟩, ⟨lp0, lp1⟩, hX5, hY5, hL5, hB5⟩ := hmid
      have HX5 := Lib.hid hX5
      have HY5 := Lib.hid hY5
      have HL5 := Lib.hid hL5
      have HB5 := Lib.hid hB5
      clear hX5 hY5 hL5 hB5
      have HT5 : Hid (TabAt w') := Lib.hid (fun j hj => keep_below HB5.out _ _ (HT.out j hj))
      have C5 : Hid ((fun wS => (wS.cell? ⟨bx, 0, none⟩ = some (.int .i64 (X.length : Int)) ∧ wS.cell? ⟨bx, 1, none⟩ = some (.slice xo ((X.length + 63) / 64) xcap)) ∧ (wS.cell? ⟨by', 0, none⟩ = some (.int .i64 (Y.length : Int)) ∧ wS.cell? ⟨by', 1, none⟩ = some (.slice yo ((Y.length + 63) / 64) ycap)) ∧ (wS.cell? ⟨w1.heap.size, 0, none⟩ = some (.int .i64 (l.length : Int)) ∧ wS.cell? ⟨w1.heap.size, 1, none⟩ = some (.slice bo L bcap))) w') := Lib.hid ⟨⟨xp0, xp1⟩, ⟨yp0, yp1⟩, ⟨lp0, lp1⟩⟩
      clear HR1 HL1 HB1 HLd HRd HBd HG0 pl p0 p1
      go_wp2
      refine wp_region_held_drew (S := (fun wS => (wS.cell? ⟨bx, 0, none⟩ = some (.int .i64 (X.length : Int)) ∧ wS.cell? ⟨bx, 1, none⟩ = some (.slice xo ((X.length + 63) / 64) xcap)) ∧ (wS.cell? ⟨by', 0, none⟩ = some (.int .i64 (Y.length : Int)) ∧ wS.cell? ⟨by', 1, none⟩ = some (.slice yo ((Y.length + 63) / 64) ycap)) ∧ (wS.cell? ⟨w1.heap.size, 0, none⟩ = some (.int .i64 (l.length : Int)) ∧ wS.cell? ⟨w1.heap.size, 1, none⟩ = some (.slice bo L bcap)))) (by kernel_rfl) ⟨⟨xp0, xp1⟩, ⟨yp0, yp1⟩, ⟨lp0, lp1⟩⟩ (fun hHeld => ?_)
      refine wpAnyH_take (i := 0) (v := ?_) rfl (by kernel_rfl) (by kernel_rfl) (by kernel_rfl) (fun _ _ _ h => h) (Or.inl ⟨by rfl, ?_⟩) (by assumption) ?_
      rotate_left
      · (intro w hSw; (try dsimp only at hSw); go_simp; try with_reducible rfl)
      simp only [Act.put, List.getElem_toArray, List.getElem_cons_zero, List.setIfInBounds_toArray, List.set_cons_zero, List.set_cons_succ]
      refine wpAnyH_take (i := 2) (v := ?_) rfl (by kernel_rfl) (by kernel_rfl) (by kernel_rfl) (fun _ _ _ h => h) (Or.inl ⟨by rfl, ?_⟩) (by assumption) ?_
      rotate_left
      · (intro w hSw; (try dsimp only at hSw); go_simp; try with_reducible rfl)
      simp only [Act.put, List.getElem_toArray, List.getElem_cons_succ, List.getElem_cons_zero, List.setIfInBounds_toArray, List.set_cons_zero, List.set_cons_succ]
      refine wpAnyH_take (i := 3) (v := ?_) rfl (by kernel_rfl) (by kernel_rfl) (by kernel_rfl) (fun _ _ _ h => h) (Or.inl ⟨by rfl, ?_⟩) (by assumption) ?_
      rotate_left
      · (intro w hSw; (try dsimp only at hSw); go_simp; try with_reducible rfl)
      simp only [Act.put, List.getElem_toArray, List.getElem_cons_succ, List.getElem_cons_zero, List.setIfInBounds_toArray, List.set_cons_zero, List.set_cons_succ]
      refine wpAnyH_ready (rs := [1]) (by kernel_rfl) (by simp) ?_
      refine AllReadyH.cons (o := _) rfl (fun K hK => ?_) AllReadyH.nil
      go_simp
      (go_at_call 22; refine (count_calls _ X _ ?_ HXL.out).mono ?_; exact HX5.out; rintro e w6 ⟨rfl, hB⟩; rw [HCX.out]; have HX6 := Lib.hid (HX5.out.keep (keep_below (undrew hB))); have HY6 := Lib.hid (HY5.out.keep (keep_below (undrew hB))); have HL6 := Lib.hid (HL5.out.keep (keep_below (undrew hB))); have HB6 := Lib.hid (bthen' HB5.out (undrew hB)); have HT6 : Hid (TabAt w6) := Lib.hid (fun j hj => keep_below (undrew hB) _ _ (HT5.out j hj)); have C6 : Hid ((fun wS => (wS.cell? ⟨bx, 0, none⟩ = some (.int .i64 (X.length : Int)) ∧ wS.cell? ⟨bx, 1, none⟩ = some (.slice xo ((X.length + 63) / 64) xcap)) ∧ (wS.cell? ⟨by', 0, none⟩ = some (.int .i64 (Y.length : Int)) ∧ wS.cell? ⟨by', 1, none⟩ = some (.slice yo ((Y.length + 63) / 64) ycap)) ∧ (wS.cell? ⟨w1.heap.size, 0, none⟩ = some (.int .i64 (l.length : Int)) ∧ wS.cell? ⟨w1.heap.size, 1, none⟩ = some (.slice bo L bcap))) w6) := Lib.hid ⟨⟨keep_below (undrew hB) _ _ C5.out.1.1, keep_below (undrew hB) _ _ C5.out.1.2⟩, ⟨keep_below (undrew hB) _ _ C5.out.2.1.1, keep_below (undrew hB) _ _ C5.out.2.1.2⟩, ⟨keep_below (undrew hB) _ _ C5.out.2.2.1, keep_below (undrew hB) _ _ C5.out.2.2.2⟩⟩; clear hB)
      try go_simp
      refine hK.out _ _ ?_ (fun hHeld => ?_)
      · exact C6.out
      clear hK K
      refine wpAnyH_ready (rs := [4]) (by kernel_rfl) (by simp) ?_
      refine AllReadyH.cons (o := _) rfl (fun K hK => ?_) AllReadyH.nil
      go_simp
      (go_at_call 23; refine (rank_calls _ l _ k HMK.out _ ?_ hl2).mono ?_; exact HL6.out; rintro e w7 ⟨rfl, hB⟩; rw [HRK.out]; have HX7 := Lib.hid (HX6.out.keep (keep_below hB)); have HY7 := Lib.hid (HY6.out.keep (keep_below hB)); have HL7 := Lib.hid (HL6.out.keep (keep_below hB)); have HB7 := Lib.hid (bthen' HB6.out hB); have HT7 : Hid (TabAt w7) := Lib.hid (fun j hj => keep_below hB _ _ (HT6.out j hj)); have C7 : Hid ((fun wS => (wS.cell? ⟨bx, 0, none⟩ = some (.int .i64 (X.length : Int)) ∧ wS.cell? ⟨bx, 1, none⟩ = some (.slice xo ((X.length + 63) / 64) xcap)) ∧ (wS.cell? ⟨by', 0, none⟩ = some (.int .i64 (Y.length : Int)) ∧ wS.cell? ⟨by', 1, none⟩ = some (.slice yo ((Y.length + 63) / 64) ycap)) ∧ (wS.cell? ⟨w1.heap.size, 0, none⟩ = some (.int .i64 (l.length : Int)) ∧ wS.cell? ⟨w1.heap.size, 1, none⟩ = some (.slice bo L bcap))) w7) := Lib.hid ⟨⟨keep_below hB _ _ C6.out.1.1, keep_below hB _ _ C6.out.1.2⟩, ⟨keep_below hB _ _ C6.out.2.1.1, keep_below hB _ _ C6.out.2.1.2⟩, ⟨keep_below hB _ _ C6.out.2.2.1, keep_below hB _ _ C6.out.2.2.2⟩⟩; clear hB HX6 HY6 HL6 HB6 HT6 C6)
      try go_simp
      refine hK.out _ _ ?_ (fun hHeld => ?_)
      · exact C7.out
      clear hK K
      refine wpAnyH_take (i := 5) (v := ?_) rfl (by kernel_rfl) (by kernel_rfl) (by kernel_rfl) (fun _ _ _ h => h) (Or.inl ⟨by rfl, ?_⟩) (by assumption) ?_
      rotate_left
      · (intro w hSw; (try dsimp only at hSw); go_simp; try with_reducible rfl)
      simp only [Act.put, List.getElem_toArray, List.getElem_cons_succ, List.getElem_cons_zero, List.setIfInBounds_toArray, List.set_cons_zero, List.set_cons_succ]
      refine wpAnyH_take (i := 6) (v := ?_) rfl (by kernel_rfl) (by kernel_rfl) (by kernel_rfl) (fun _ _ _ h => h) (Or.inl ⟨by rfl, ?_⟩) (by assumption) ?_
      rotate_left
      · (intro w hSw; (try dsimp only at hSw); go_simp; try with_reducible rfl)
      simp only [Act.put, List.getElem_toArray, List.getElem_cons_succ, List.getElem_cons_zero, List.setIfInBounds_toArray, List.set_cons_zero, List.set_cons_succ]
      refine wpAnyH_take (i := 7) (v := ?_) rfl (by kernel_rfl) (by kernel_rfl) (by kernel_rfl) (fun _ _ _ h => h) (Or.inl ⟨by rfl, ?_⟩) (by assumption) ?_
      rotate_left
      · (intro w hSw; (try dsimp only at hSw); go_simp; try with_reducible rfl)
      simp only [Act.put, List.getElem_toArray, List.getElem_cons_succ, List.getElem_cons_zero, List.setIfInBounds_toArray, List.set_cons_zero, List.set_cons_succ]
      refine wpAnyH_take (i := 9) (v := ?_) rfl (by kernel_rfl) (by kernel_rfl) (by kernel_rfl) (fun _ _ _ h => h) (Or.inl ⟨by rfl, ?_⟩) (by assumption) ?_
      rotate_left
      · (intro w hSw; (try dsimp only at hSw); go_simp; try with_reducible rfl)
      simp only [Act.put, List.getElem_toArray, List.getElem_cons_succ, List.getElem_cons_zero, List.setIfInBounds_toArray, List.set_cons_zero, List.set_cons_succ]
      refine wpAnyH_take (i := 12) (v := ?_) rfl (by kernel_rfl) (by kernel_rfl) (by kernel_rfl) (fun _ _ _ h => h) (Or.inl ⟨by rfl, ?_⟩) (by assumption) ?_
      rotate_left
      · (intro w hSw; (try dsimp only at hSw); go_simp; try with_reducible rfl)
      simp only [Act.put, List.getElem_toArray, List.getElem_cons_succ, List.getElem_cons_zero, List.setIfInBounds_toArray, List.set_cons_zero, List.set_cons_succ]
      refine wpAnyH_ready (rs := [8]) (by kernel_rfl) (by simp) ?_
      refine AllReadyH.cons (o := _) rfl (fun K hK => ?_) AllReadyH.nil
      go_simp
      (go_at_call 22; refine (count_calls _ X _ ?_ HXL.out).mono ?_; exact HX7.out; rintro e w8 ⟨rfl, hB⟩; rw [HCX.out]; have HX8 := Lib.hid (HX7.out.keep (keep_below hB)); have HY8 := Lib.hid (HY7.out.keep (keep_below hB)); have HL8 := Lib.hid (HL7.out.keep (keep_below hB)); have HB8 := Lib.hid (bthen' HB7.out hB); have HT8 : Hid (TabAt w8) := Lib.hid (fun j hj => keep_below hB _ _ (HT7.out j hj)); have C8 : Hid ((fun wS => (wS.cell? ⟨bx, 0, none⟩ = some (.int .i64 (X.length : Int)) ∧ wS.cell? ⟨bx, 1, none⟩ = some (.slice xo ((X.length + 63) / 64) xcap)) ∧ (wS.cell? ⟨by', 0, none⟩ = some (.int .i64 (Y.length : Int)) ∧ wS.cell? ⟨by', 1, none⟩ = some (.slice yo ((Y.length + 63) / 64) ycap)) ∧ (wS.cell? ⟨w1.heap.size, 0, none⟩ = some (.int .i64 (l.length : Int)) ∧ wS.cell? ⟨w1.heap.size, 1, none⟩ = some (.slice bo L bcap))) w8) := Lib.hid ⟨⟨keep_below hB _ _ C7.out.1.1, keep_below hB _ _ C7.out.1.2⟩, ⟨keep_below hB _ _ C7.out.2.1.1, keep_below hB _ _ C7.out.2.1.2⟩, ⟨keep_below hB _ _ C7.out.2.2.1, keep_below hB _ _ C7.out.2.2.2⟩⟩; clear hB HX7 HY7 HL7 HB7 HT7 C7)
      try go_simp
      refine hK.out _ _ ?_ (fun hHeld => ?_)
      · exact C8.out
      clear hK K
      refine wpAnyH_ready (rs := [10]) (by kernel_rfl) (by simp) ?_
      refine AllReadyH.cons (o := _) rfl (fun K hK => ?_) AllReadyH.nil
      go_simp
      (go_at_call 22; refine (count_calls _ Y _ ?_ HYL.out).mono ?_; exact HY8.out; rintro e w9 ⟨rfl, hB⟩; rw [HCY.out]; have HX9 := Lib.hid (HX8.out.keep (keep_below hB)); have HY9 := Lib.hid (HY8.out.keep (keep_below hB)); have HL9 := Lib.hid (HL8.out.keep (keep_below hB)); have HB9 := Lib.hid (bthen' HB8.out hB); have HT9 : Hid (TabAt w9) := Lib.hid (fun j hj => keep_below hB _ _ (HT8.out j hj)); have C9 : Hid ((fun wS => (wS.cell? ⟨bx, 0, none⟩ = some (.int .i64 (X.length : Int)) ∧ wS.cell? ⟨bx, 1, none⟩ = some (.slice xo ((X.length + 63) / 64) xcap)) ∧ (wS.cell? ⟨by', 0, none⟩ = some (.int .i64 (Y.length : Int)) ∧ wS.cell? ⟨by', 1, none⟩ = some (.slice yo ((Y.length + 63) / 64) ycap)) ∧ (wS.cell? ⟨w1.heap.size, 0, none⟩ = some (.int .i64 (l.length : Int)) ∧ wS.cell? ⟨w1.heap.size, 1, none⟩ = some (.slice bo L bcap))) w9) := Lib.hid ⟨⟨keep_below hB _ _ C8.out.1.1, keep_below hB _ _ C8.out.1.2⟩, ⟨keep_below hB _ _ C8.out.2.1.1, keep_below hB _ _ C8.out.2.1.2⟩, ⟨keep_below hB _ _ C8.out.2.2.1, keep_below hB _ _ C8.out.2.2.2⟩⟩; clear hB HX8 HY8 HL8 HB8 HT8 C8)
      try go_simp
      refine hK.out _ _ ?_ (fun hHeld => ?_)
      · exact C9.out
      clear hK K
      refine wpAnyH_take (i := 11) (v := ?_) rfl (by kernel_rfl) (by kernel_rfl) (by kernel_rfl) (fun _ _ _ h => h) (Or.inl ⟨by rfl, ?_⟩) (by assumption) ?_
      rotate_left
      · (intro w hSw; (try dsimp only at hSw); go_simp; try with_reducible rfl)
      simp only [Act.put, List.getElem_toArray, List.getElem_cons_succ, List.getElem_cons_zero, List.setIfInBounds_toArray, List.set_cons_zero, List.set_cons_succ]
      refine wpAnyH_ready (rs := [13]) (by kernel_rfl) (by simp) ?_
      refine AllReadyH.cons (o := _) rfl (fun K hK => ?_) AllReadyH.nil
      go_simp
      (go_at_call 22; refine (count_calls _ l _ ?_ hl2).mono ?_; exact HL9.out; rintro e w10 ⟨rfl, hB⟩; rw [HCB.out]; have HX10 := Lib.hid (HX9.out.keep (keep_below hB)); have HY10 := Lib.hid (HY9.out.keep (keep_below hB)); have HL10 := Lib.hid (HL9.out.keep (keep_below hB)); have HB10 := Lib.hid (bthen' HB9.out hB); have HT10 : Hid (TabAt w10) := Lib.hid (fun j hj => keep_below hB _ _ (HT9.out j hj)); have C10 : Hid ((fun wS => (wS.cell? ⟨bx, 0, none⟩ = some (.int .i64 (X.length : Int)) ∧ wS.cell? ⟨bx, 1, none⟩ = some (.slice xo ((X.length + 63) / 64) xcap)) ∧ (wS.cell? ⟨by', 0, none⟩ = some (.int .i64 (Y.length : Int)) ∧ wS.cell? ⟨by', 1, none⟩ = some (.slice yo ((Y.length + 63) / 64) ycap)) ∧ (wS.cell? ⟨w1.heap.size, 0, none⟩ = some (.int .i64 (l.length : Int)) ∧ wS.cell? ⟨w1.heap.size, 1, none⟩ = some (.slice bo L bcap))) w10) := Lib.hid ⟨⟨keep_below hB _ _ C9.out.1.1, keep_below hB _ _ C9.out.1.2⟩, ⟨keep_below hB _ _ C9.out.2.1.1, keep_below hB _ _ C9.out.2.1.2⟩, ⟨keep_below hB _ _ C9.out.2.2.1, keep_below hB _ _ C9.out.2.2.2⟩⟩; clear hB HX9 HY9 HL9 HB9 HT9 C9)
      try go_simp
      refine hK.out _ _ ?_ (fun hHeld => ?_)
      · exact C10.out
      clear hK K
      refine wpAnyH_take (i := 14) (v := ?_) rfl (by kernel_rfl) (by kernel_rfl) (by kernel_rfl) (fun _ _ _ h => h) (Or.inl ⟨by rfl, ?_⟩) (by assumption) ?_
      rotate_left
      · (intro w hSw; (try dsimp only at hSw); go_simp; try with_reducible rfl)
      simp only [Act.put, List.getElem_toArray, List.getElem_cons_succ, List.getElem_cons_zero, List.setIfInBounds_toArray, List.set_cons_zero, List.set_cons_succ]
      refine wpAnyH_take (i := 15) (v := ?_) rfl (by kernel_rfl) (by kernel_rfl) (by kernel_rfl) (fun _ _ _ h => h) (Or.inl ⟨by rfl, ?_⟩) (by assumption) ?_
      rotate_left
      · (intro w hSw; (try dsimp only at hSw); go_simp; try with_reducible rfl)
      simp only [Act.put, List.getElem_toArray, List.getElem_cons_succ, List.getElem_cons_zero, List.setIfInBounds_toArray, List.set_cons_zero, List.set_cons_succ]
      refine wpAnyH_take (i := 16) (v := ?_) rfl (by kernel_rfl) (by kernel_rfl) (by kernel_rfl) (fun _ _ _ h => h) (Or.inl ⟨by rfl, ?_⟩) (by assumption) ?_
      rotate_left
      · (intro w hSw; (try dsimp only at hSw); go_simp; try with_reducible rfl)
      simp only [Act.put, List.getElem_toArray, List.getElem_cons_succ, List.getElem_cons_zero, List.setIfInBounds_toArray, List.set_cons_zero, List.set_cons_succ]
      refine wpAnyH_take (i := 17) (v := ?_) rfl (by kernel_rfl) (by kernel_rfl) (by kernel_rfl) (fun _ _ _ h => h) (Or.inl ⟨by rfl, ?_⟩) (by assumption) ?_
      rotate_left
      · (intro w hSw; (try dsimp only at hSw); go_simp; try with_reducible rfl)
      simp only [Act.put, List.getElem_toArray, List.getElem_cons_succ, List.getElem_cons_zero, List.setIfInBounds_toArray, List.set_cons_zero, List.set_cons_succ]
      refine wpAnyH_ready (rs := [18]) (by kernel_rfl) (by simp) ?_
      refine AllReadyH.cons (o := _) rfl (fun K hK => ?_) AllReadyH.nil
      go_simp
      (go_at_call 22; refine (count_calls _ X _ ?_ HXL.out).mono ?_; exact HX10.out; rintro e w11 ⟨rfl, hB⟩; rw [HCX.out]; have HX11 := Lib.hid (HX10.out.keep (keep_below hB)); have HY11 := Lib.hid (HY10.out.keep (keep_below hB)); have HL11 := Lib.hid (HL10.out.keep (keep_below hB)); have HB11 := Lib.hid (bthen' HB10.out hB); have HT11 : Hid (TabAt w11) := Lib.hid (fun j hj => keep_below hB _ _ (HT10.out j hj)); have C11 : Hid ((fun wS => (wS.cell? ⟨bx, 0, none⟩ = some (.int .i64 (X.length : Int)) ∧ wS.cell? ⟨bx, 1, none⟩ = some (.slice xo ((X.length + 63) / 64) xcap)) ∧ (wS.cell? ⟨by', 0, none⟩ = some (.int .i64 (Y.length : Int)) ∧ wS.cell? ⟨by', 1, none⟩ = some (.slice yo ((Y.length + 63) / 64) ycap)) ∧ (wS.cell? ⟨w1.heap.size, 0, none⟩ = some (.int .i64 (l.length : Int)) ∧ wS.cell? ⟨w1.heap.size, 1, none⟩ = some (.slice bo L bcap))) w11) := Lib.hid ⟨⟨keep_below hB _ _ C10.out.1.1, keep_below hB _ _ C10.out.1.2⟩, ⟨keep_below hB _ _ C10.out.2.1.1, keep_below hB _ _ C10.out.2.1.2⟩, ⟨keep_below hB _ _ C10.out.2.2.1, keep_below hB _ _ C10.out.2.2.2⟩⟩; clear hB HX10 HY10 HL10 HB10 HT10 C10)
      try go_simp
      refine hK.out _ _ ?_ (fun hHeld => ?_)
      · exact C11.out
      clear hK K
      refine wpAnyH_take (i := 19) (v := ?_) rfl (by kernel_rfl) (by kernel_rfl) (by kernel_rfl) (fun _ _ _ h => h) (Or.inl ⟨by rfl, ?_⟩) (by assumption) ?_
      rotate_left
      · (intro w hSw; (try dsimp only at hSw); go_simp; try with_reducible rfl)
      simp only [Act.put, List.getElem_toArray, List.getElem_cons_succ, List.getElem_cons_zero, List.setIfInBounds_toArray, List.set_cons_zero, List.set_cons_succ]
      refine wpAnyH_take (i := 20) (v := ?_) rfl (by kernel_rfl) (by kernel_rfl) (by kernel_rfl) (fun _ _ _ h => h) (Or.inl ⟨by rfl, ?_⟩) (by assumption) ?_
      rotate_left
      · (intro w hSw; (try dsimp only at hSw); go_simp; try with_reducible rfl)
      simp only [Act.put, List.getElem_toArray, List.getElem_cons_succ, List.getElem_cons_zero, List.setIfInBounds_toArray, List.set_cons_zero, List.set_cons_succ]
      refine wpAnyH_take (i := 21) (v := undef) rfl (by kernel_rfl) (by kernel_rfl) (by kernel_rfl) (fun _ _ _ h => h) (Or.inr ⟨by rfl, rfl⟩) (by assumption) ?_
      simp only [Act.put, List.getElem_toArray, List.getElem_cons_succ, List.getElem_cons_zero, List.setIfInBounds_toArray, List.set_cons_zero, List.set_cons_succ]
      refine wpAnyH_take (i := 22) (v := undef) rfl (by kernel_rfl) (by kernel_rfl) (by kernel_rfl) (fun _ _ _ h => h) (Or.inr ⟨by rfl, rfl⟩) (by assumption) ?_
      simp only [Act.put, List.getElem_toArray, List.getElem_cons_succ, List.getElem_cons_zero, List.setIfInBounds_toArray, List.set_cons_zero, List.set_cons_succ]
      refine wpAnyH_take (i := 23) (v := undef) rfl (by kernel_rfl) (by kernel_rfl) (by kernel_rfl) (fun _ _ _ h => h) (Or.inr ⟨by rfl, rfl⟩) (by assumption) ?_
      simp only [Act.put, List.getElem_toArray, List.getElem_cons_succ, List.getElem_cons_zero, List.setIfInBounds_toArray, List.set_cons_zero, List.set_cons_succ]
      refine wpAnyH_take (i := 24) (v := undef) rfl (by kernel_rfl) (by kernel_rfl) (by kernel_rfl) (fun _ _ _ h => h) (Or.inr ⟨by rfl, rfl⟩) (by assumption) ?_
      simp only [Act.put, List.getElem_toArray, List.getElem_cons_succ, List.getElem_cons_zero, List.setIfInBounds_toArray, List.set_cons_zero, List.set_cons_succ]
      refine wpAnyH_take (i := 25) (v := undef) rfl (by kernel_rfl) (by kernel_rfl) (by kernel_rfl) (fun _ _ _ h => h) (Or.inr ⟨by rfl, rfl⟩) (by assumption) ?_
      simp only [Act.put, List.getElem_toArray, List.getElem_cons_succ, List.getElem_cons_zero, List.setIfInBounds_toArray, List.set_cons_zero, List.set_cons_succ]
      refine wpAnyH_take (i := 26) (v := ?_) rfl (by kernel_rfl) (by kernel_rfl) (by kernel_rfl) (fun _ _ _ h => h) (Or.inl ⟨by rfl, ?_⟩) (by assumption) ?_
      rotate_left
      · (intro w hSw; (try dsimp only at hSw); go_simp; try with_reducible rfl)
      simp only [Act.put, List.getElem_toArray, List.getElem_cons_succ, List.getElem_cons_zero, List.setIfInBounds_toArray, List.set_cons_zero, List.set_cons_succ]
      refine wpAnyH_take (i := 27) (v := ?_) rfl (by kernel_rfl) (by kernel_rfl) (by kernel_rfl) (fun _ _ _ h => h) (Or.inl ⟨by rfl, ?_⟩) (by assumption) ?_
      rotate_left
      · (intro w hSw; (try dsimp only at hSw); go_simp; try with_reducible rfl)
      simp only [Act.put, List.getElem_toArray, List.getElem_cons_succ, List.getElem_cons_zero, List.setIfInBounds_toArray, List.set_cons_zero, List.set_cons_succ]
      refine wpAnyH_take (i := 28) (v := ?_) rfl (by kernel_rfl) (by kernel_rfl) (by kernel_rfl) (fun _ _ _ h => h) (Or.inl ⟨by rfl, ?_⟩) (by assumption) ?_
      rotate_left
      · (intro w hSw; (try dsimp only at hSw); go_simp; try with_reducible rfl)
      simp only [Act.put, List.getElem_toArray, List.getElem_cons_succ, List.getElem_cons_zero, List.setIfInBounds_toArray, List.set_cons_zero, List.set_cons_succ]
      refine wpAnyH_take (i := 29) (v := ?_) rfl (by kernel_rfl) (by kernel_rfl) (by kernel_rfl) (fun _ _ _ h => h) (Or.inl ⟨by rfl, ?_⟩) (by assumption) ?_
      rotate_left
      · (intro w hSw; (try dsimp only at hSw); go_simp; try with_reducible rfl)
      simp only [Act.put, List.getElem_toArray, List.getElem_cons_succ, List.getElem_cons_zero, List.setIfInBounds_toArray, List.set_cons_zero, List.set_cons_succ]
      refine wpAnyH_ready (rs := [30]) (by kernel_rfl) (by simp) ?_
      refine AllReadyH.cons (o := _) rfl (fun K hK => ?_) AllReadyH.nil
      go_simp
      (go_at_call 22; refine (count_calls _ X _ ?_ HXL.out).mono ?_; exact HX11.out; rintro e w12 ⟨rfl, hB⟩; rw [HCX.out]; have HX12 := Lib.hid (HX11.out.keep (keep_below hB)); have HY12 := Lib.hid (HY11.out.keep (keep_below hB)); have HL12 := Lib.hid (HL11.out.keep (keep_below hB)); have HB12 := Lib.hid (bthen' HB11.out hB); have HT12 : Hid (TabAt w12) := Lib.hid (fun j hj => keep_below hB _ _ (HT11.out j hj)); have C12 : Hid ((fun wS => (wS.cell? ⟨bx, 0, none⟩ = some (.int .i64 (X.length : Int)) ∧ wS.cell? ⟨bx, 1, none⟩ = some (.slice xo ((X.length + 63) / 64) xcap)) ∧ (wS.cell? ⟨by', 0, none⟩ = some (.int .i64 (Y.length : Int)) ∧ wS.cell? ⟨by', 1, none⟩ = some (.slice yo ((Y.length + 63) / 64) ycap)) ∧ (wS.cell? ⟨w1.heap.size, 0, none⟩ = some (.int .i64 (l.length : Int)) ∧ wS.cell? ⟨w1.heap.size, 1, none⟩ = some (.slice bo L bcap))) w12) := Lib.hid ⟨⟨keep_below hB _ _ C11.out.1.1, keep_below hB _ _ C11.out.1.2⟩, ⟨keep_below hB _ _ C11.out.2.1.1, keep_below hB _ _ C11.out.2.1.2⟩, ⟨keep_below hB _ _ C11.out.2.2.1, keep_below hB _ _ C11.out.2.2.2⟩⟩; clear hB HX11 HY11 HL11 HB11 HT11 C11)
      try go_simp
      refine hK.out _ _ ?_ (fun hHeld => ?_)
      · exact C12.out
      clear hK K
      refine wpAnyH_take (i := 31) (v := ?_) rfl (by kernel_rfl) (by kernel_rfl) (by kernel_rfl) (fun _ _ _ h => h) (Or.inl ⟨by rfl, ?_⟩) (by assumption) ?_
      rotate_left
      · (intro w hSw; (try dsimp only at hSw); go_simp; try with_reducible rfl)
      simp only [Act.put, List.getElem_toArray, List.getElem_cons_succ, List.getElem_cons_zero, List.setIfInBounds_toArray, List.set_cons_zero, List.set_cons_succ]
      refine wpAnyH_take (i := 32) (v := ?_) rfl (by kernel_rfl) (by kernel_rfl) (by kernel_rfl) (fun _ _ _ h => h) (Or.inl ⟨by rfl, ?_⟩) (by assumption) ?_
      rotate_left
      · (intro w hSw; (try dsimp only at hSw); go_simp; try with_reducible rfl)
      simp only [Act.put, List.getElem_toArray, List.getElem_cons_succ, List.getElem_cons_zero, List.setIfInBounds_toArray, List.set_cons_zero, List.set_cons_succ]
      refine wpAnyH_take (i := 33) (v := ?_) rfl (by kernel_rfl) (by kernel_rfl) (by kernel_rfl) (fun _ _ _ h => h) (Or.inl ⟨by rfl, ?_⟩) (by assumption) ?_
      rotate_left
      · (intro w hSw; (try dsimp only at hSw); go_simp; try with_reducible rfl)
      simp only [Act.put, List.getElem_toArray, List.getElem_cons_succ, List.getElem_cons_zero, List.setIfInBounds_toArray, List.set_cons_zero, List.set_cons_succ]
      refine wpAnyH_take (i := 35) (v := ?_) rfl (by kernel_rfl) (by kernel_rfl) (by kernel_rfl) (fun _ _ _ h => h) (Or.inl ⟨by rfl, ?_⟩) (by assumption) ?_
      rotate_left
      · (intro w hSw; (try dsimp only at hSw); go_simp; try with_reducible rfl)
      simp only [Act.put, List.getElem_toArray, List.getElem_cons_succ, List.getElem_cons_zero, List.setIfInBounds_toArray, List.set_cons_zero, List.set_cons_succ]
      refine wpAnyH_take (i := 37) (v := ?_) rfl (by kernel_rfl) (by kernel_rfl) (by kernel_rfl) (fun _ _ _ h => h) (Or.inl ⟨by rfl, ?_⟩) (by assumption) ?_
      rotate_left
      · (intro w hSw; (try dsimp only at hSw); go_simp; try with_reducible rfl)
      simp only [Act.put, List.getElem_toArray, List.getElem_cons_succ, List.getElem_cons_zero, List.setIfInBounds_toArray, List.set_cons_zero, List.set_cons_succ]
      refine wpAnyH_ready (rs := [34]) (by kernel_rfl) (by simp) ?_
      refine AllReadyH.cons (o := _) rfl (fun K hK => ?_) AllReadyH.nil
      go_simp
      (go_at_call 24; refine (first_calls _ Y _ ?_ HYL.out ?_).mono ?_; exact HY12.out; exact HT12.out; rintro e w13 ⟨rfl, hB⟩; rw [HFY.out]; have HX13 := Lib.hid (HX12.out.keep (keep_below hB)); have HY13 := Lib.hid (HY12.out.keep (keep_below hB)); have HL13 := Lib.hid (HL12.out.keep (keep_below hB)); have HB13 := Lib.hid (bthen' HB12.out hB); have HT13 : Hid (TabAt w13) := Lib.hid (fun j hj => keep_below hB _ _ (HT12.out j hj)); have C13 : Hid ((fun wS => (wS.cell? ⟨bx, 0, none⟩ = some (.int .i64 (X.length : Int)) ∧ wS.cell? ⟨bx, 1, none⟩ = some (.slice xo ((X.length + 63) / 64) xcap)) ∧ (wS.cell? ⟨by', 0, none⟩ = some (.int .i64 (Y.length : Int)) ∧ wS.cell? ⟨by', 1, none⟩ = some (.slice yo ((Y.length + 63) / 64) ycap)) ∧ (wS.cell? ⟨w1.heap.size, 0, none⟩ = some (.int .i64 (l.length : Int)) ∧ wS.cell? ⟨w1.heap.size, 1, none⟩ = some (.slice bo L bcap))) w13) := Lib.hid ⟨⟨keep_below hB _ _ C12.out.1.1, keep_below hB _ _ C12.out.1.2⟩, ⟨keep_below hB _ _ C12.out.2.1.1, keep_below hB _ _ C12.out.2.1.2⟩, ⟨keep_below hB _ _ C12.out.2.2.1, keep_below hB _ _ C12.out.2.2.2⟩⟩; clear hB HX12 HY12 HL12 HB12 HT12 C12)
      try go_simp
      refine hK.out _ _ ?_ (fun hHeld => ?_)
      · exact C13.out
      clear hK K
      refine wpAnyH_take (i := 36) (v := ?_) rfl (by kernel_rfl) (by kernel_rfl) (by kernel_rfl) (fun _ _ _ h => h) (Or.inl ⟨by rfl, ?_⟩) (by assumption) ?_
      rotate_left
      · (intro w hSw; (try dsimp only at hSw); go_simp; try with_reducible rfl)
      simp only [Act.put, List.getElem_toArray, List.getElem_cons_succ, List.getElem_cons_zero, List.setIfInBounds_toArray, List.set_cons_zero, List.set_cons_succ]
      refine wpAnyH_ready (rs := [38]) (by kernel_rfl) (by simp) ?_
      refine AllReadyH.cons (o := _) rfl (fun K hK => ?_) AllReadyH.nil
      go_simp
      (go_at_call 24; refine (first_calls _ l _ ?_ hl2 ?_).mono ?_; exact HL13.out; exact HT13.out; rintro e w14 ⟨rfl, hB⟩; rw [HFB.out]; have HX14 := Lib.hid (HX13.out.keep (keep_below hB)); have HY14 := Lib.hid (HY13.out.keep (keep_below hB)); have HL14 := Lib.hid (HL13.out.keep (keep_below hB)); have HB14 := Lib.hid (bthen' HB13.out hB); have HT14 : Hid (TabAt w14) := Lib.hid (fun j hj => keep_below hB _ _ (HT13.out j hj)); have C14 : Hid ((fun wS => (wS.cell? ⟨bx, 0, none⟩ = some (.int .i64 (X.length : Int)) ∧ wS.cell? ⟨bx, 1, none⟩ = some (.slice xo ((X.length + 63) / 64) xcap)) ∧ (wS.cell? ⟨by', 0, none⟩ = some (.int .i64 (Y.length : Int)) ∧ wS.cell? ⟨by', 1, none⟩ = some (.slice yo ((Y.length + 63) / 64) ycap)) ∧ (wS.cell? ⟨w1.heap.size, 0, none⟩ = some (.int .i64 (l.length : Int)) ∧ wS.cell? ⟨w1.heap.size, 1, none⟩ = some (.slice bo L bcap))) w14) := Lib.hid ⟨⟨keep_below hB _ _ C13.out.1.1, keep_below hB _ _ C13.out.1.2⟩, ⟨keep_below hB _ _ C13.out.2.1.1, keep_below hB _ _ C13.out.2.1.2⟩, ⟨keep_below hB _ _ C13.out.2.2.1, keep_below hB _ _ C13.out.2.2.2⟩⟩; clear hB HX13 HY13 HL13 HB13 HT13 C13)
      try go_simp
      refine hK.out _ _ ?_ (fun hHeld => ?_)
      · exact C14.out
      clear hK K
      refine wpAnyH_take (i := 39) (v := ?_) rfl (by kernel_rfl) (by kernel_rfl) (by kernel_rfl) (fun _ _ _ h => h) (Or.inl ⟨by rfl, ?_⟩) (by assumption) ?_
      rotate_left
      · (intro w hSw; (try dsimp only at hSw); go_simp; try with_reducible rfl)
      simp only [Act.put, List.getElem_toArray, List.getElem_cons_succ, List.getElem_cons_zero, List.setIfInBounds_toArray, List.set_cons_zero, List.set_cons_succ]
      refine wpAnyH_take (i := 40) (v := ?_) rfl (by kernel_rfl) (by kernel_rfl) (by kernel_rfl) (fun _ _ _ h => h) (Or.inl ⟨by rfl, ?_⟩) (by assumption) ?_
      rotate_left
      · (intro w hSw; (try dsimp only at hSw); go_simp; try with_reducible rfl)
      simp only [Act.put, List.getElem_toArray, List.getElem_cons_succ, List.getElem_cons_zero, List.setIfInBounds_toArray, List.set_cons_zero, List.set_cons_succ]
      refine wpAnyH_take (i := 41) (v := ?_) rfl (by kernel_rfl) (by kernel_rfl) (by kernel_rfl) (fun _ _ _ h => h) (Or.inl ⟨by rfl, ?_⟩) (by assumption) ?_
      rotate_left
      · (intro w hSw; (try dsimp only at hSw); go_simp; try with_reducible rfl)
      simp only [Act.put, List.getElem_toArray, List.getElem_cons_succ, List.getElem_cons_zero, List.setIfInBounds_toArray, List.set_cons_zero, List.set_cons_succ]
      refine wpAnyH_take (i := 42) (v := ?_) rfl (by kernel_rfl) (by kernel_rfl) (by kernel_rfl) (fun _ _ _ h => h) (Or.inl ⟨by rfl, ?_⟩) (by assumption) ?_
      rotate_left
      · (intro w hSw; (try dsimp only at hSw); go_simp; try with_reducible rfl)
      simp only [Act.put, List.getElem_toArray, List.getElem_cons_succ, List.getElem_cons_zero, List.setIfInBounds_toArray, List.set_cons_zero, List.set_cons_succ]
      refine wpAnyH_ready (rs := [43]) (by kernel_rfl) (by simp) ?_
      refine AllReadyH.cons (o := _) rfl (fun K hK => ?_) AllReadyH.nil
      go_simp
      (go_at_call 9; refine (awake_calls _ ?_).mono ?_; exact HT14.out; rintro e w15 ⟨rfl, hB⟩; have HX15 := Lib.hid (HX14.out.keep (keep_below hB)); have HY15 := Lib.hid (HY14.out.keep (keep_below hB)); have HL15 := Lib.hid (HL14.out.keep (keep_below hB)); have HB15 := Lib.hid (bthen' HB14.out hB); have HT15 : Hid (TabAt w15) := Lib.hid (fun j hj => keep_below hB _ _ (HT14.out j hj)); have C15 : Hid ((fun wS => (wS.cell? ⟨bx, 0, none⟩ = some (.int .i64 (X.length : Int)) ∧ wS.cell? ⟨bx, 1, none⟩ = some (.slice xo ((X.length + 63) / 64) xcap)) ∧ (wS.cell? ⟨by', 0, none⟩ = some (.int .i64 (Y.length : Int)) ∧ wS.cell? ⟨by', 1, none⟩ = some (.slice yo ((Y.length + 63) / 64) ycap)) ∧ (wS.cell? ⟨w1.heap.size, 0, none⟩ = some (.int .i64 (l.length : Int)) ∧ wS.cell? ⟨w1.heap.size, 1, none⟩ = some (.slice bo L bcap))) w15) := Lib.hid ⟨⟨keep_below hB _ _ C14.out.1.1, keep_below hB _ _ C14.out.1.2⟩, ⟨keep_below hB _ _ C14.out.2.1.1, keep_below hB _ _ C14.out.2.1.2⟩, ⟨keep_below hB _ _ C14.out.2.2.1, keep_below hB _ _ C14.out.2.2.2⟩⟩; have HBZ := HB15; clear hB HX14 HY14 HL14 HB14 HT14 C14)
      try go_simp
      refine hK.out _ _ ?_ (fun hHeld => ?_)
      · exact C15.out
      clear hK K
      refine wpAnyH_take (i := 44) (v := ?_) rfl (by kernel_rfl) (by kernel_rfl) (by kernel_rfl) (fun _ _ _ h => h) (Or.inl ⟨by rfl, ?_⟩) (by assumption) ?_
      rotate_left
      · (intro w hSw; (try dsimp only at hSw); go_simp; try with_reducible rfl)
      simp only [Act.put, List.getElem_toArray, List.getElem_cons_succ, List.getElem_cons_zero, List.setIfInBounds_toArray, List.set_cons_zero, List.set_cons_succ]
      refine wpAnyH_take (i := 45) (v := ?_) rfl (by kernel_rfl) (by kernel_rfl) (by kernel_rfl) (fun _ _ _ h => h) (Or.inl ⟨by rfl, ?_⟩) (by assumption) ?_
      rotate_left
      · (intro w hSw; (try dsimp only at hSw); go_simp; try with_reducible rfl)
      simp only [Act.put, List.getElem_toArray, List.getElem_cons_succ, List.getElem_cons_zero, List.setIfInBounds_toArray, List.set_cons_zero, List.set_cons_succ]
      refine wpAnyH_done (by kernel_rfl) ?_ _
      go_wp2
      go_ret
      exact ⟨rfl, HBZ.out⟩
    · have HFX : Hid (firstOf X = fb) := Lib.hid (by rw [hX, first_take l k hk' (by omega), hfb])
      have z1 : ((cx : Int) == 0) = false := by simp; omega
      have z3 : (0 < cx) = True := eq_true (by omega)
      clear hX hY hcx hcy hcb hfb hz
      go_enter Tryd.func8, Tryd.ntmps8
      go_wp2_with fail
      refine (pack_calls _ l w HS.out hl2).mono ?_
      rintro e w1 ⟨v1, rfl, hb, hB⟩
      obtain ⟨bo, bcap, rfl, _⟩ := hb.opened
      obtain ⟨L, hL⟩ : ∃ L, (l.length + 63) / 64 = L := ⟨_, rfl⟩
      rw [hL] at hb ⊢
      obtain ⟨W0, hW0⟩ : ∃ W0, W0 = w1.alloc (.cells #[.int .i64 l.length, .slice bo L bcap] 26) := ⟨_, rfl⟩
      have HR1 : Hid (At2 W0 w1.heap.size (.int .i64 l.length) (.slice bo L bcap)) := Lib.hid (by rw [hW0]; exact At2.new _ _ _ _)
      have HL1 : Hid (IsBits W0 (.agg #[.int .i64 l.length, .slice bo L bcap]) l) := Lib.hid (by rw [hW0]; exact hb.keep (keep_alloc _ _))
      have HB1 : Hid (Below w.heap.size w W0) := Lib.hid (by rw [hW0]; exact (hB.alloc hB.size _))
      have hp := HR1.out
      clear hb hB hL
      go_wp2
      rw [← hW0]
      clear hW0
      obtain ⟨pl, p0, p1, pf⟩ := hp
      clear pf
      have HLd : Hid (IsBits W0.drew (.agg #[.int .i64 l.length, .slice bo L bcap]) l) := Lib.hid HL1.out
      have HRd : Hid (At2 W0.drew w1.heap.size (.int .i64 l.length) (.slice bo L bcap)) := Lib.hid HR1.out
      have HBd : Hid (Below w.heap.size w W0.drew) := Lib.hid HB1.out.drew
      have HG0 : Hid (w.heap.size ≤ W0.heap.size) := Lib.hid HB1.out.size
      refine Code.wp_mono (fun e a' w' (hmid : SMid w ao cap a k w1.heap.size l X Y bo L bcap e a' w') => ?_) ?_
      case' refine_2 => go_region_held3 (fun w' => w'.cell? ⟨w1.heap.size, 0, none⟩ = some (.int .i64 (l.length : Int)) ∧ w'.cell? ⟨w1.heap.size, 1, none⟩ = some (.slice bo L bcap))
        ((first | with_reducible exact ⟨At2.c0 ((HR1.out)), At2.c1 ((HR1.out))⟩ | with_reducible exact ⟨At2.c0 (((HR1.out).alloc _)), At2.c1 (((HR1.out).alloc _))⟩ | with_reducible exact ⟨At2.c0 ((((HR1.out).alloc _).alloc _)), At2.c1 ((((HR1.out).alloc _).alloc _))⟩ | with_reducible exact ⟨At2.c0 (HRd.out), At2.c1 (HRd.out)⟩ | with_reducible exact ⟨At2.c0 ((HR2.out)), At2.c1 ((HR2.out))⟩ | with_reducible exact ⟨At2.c0 (((HR2.out).alloc _)), At2.c1 (((HR2.out).alloc _))⟩ | with_reducible exact ⟨At2.c0 ((((HR2.out).alloc _).alloc _)), At2.c1 ((((HR2.out).alloc _).alloc _))⟩ | with_reducible exact ⟨At2.c0 ((HR3.out)), At2.c1 ((HR3.out))⟩ | with_reducible exact ⟨At2.c0 (((HR3.out).alloc _)), At2.c1 (((HR3.out).alloc _))⟩ | with_reducible exact ⟨At2.c0 ((((HR3.out).alloc _).alloc _)), At2.c1 ((((HR3.out).alloc _).alloc _))⟩ | go_keep))
        ((first
        | (go_at_call 30; (with_reducible refine (cutlo _ l X k hk' HXT.out _ ?_ hl2).mono ?_); with_reducible exact IsBits.drew (HL1.out); rintro e w2 ⟨v2, rfl, hb, hB⟩; obtain ⟨xo, xcap, hxe, _⟩ := hb.opened; subst hxe; have HX2 := Lib.hid hb; have HL2 := Lib.hid ((IsBits.drew (HL1.out)).keep (keep_below hB)); have HR2 := Lib.hid ((At2.drew (HR1.out)).below hB); have HB2 := Lib.hid (bthen' ((HB1.out).drew) hB); clear hb hB)
        | (go_at_call 30; (with_reducible refine (cutlo _ l X k hk' HXT.out _ ?_ hl2).mono ?_); with_reducible exact IsBits.drew ((HL1.out).keep (keep_alloc _ _)); rintro e w2 ⟨v2, rfl, hb, hB⟩; obtain ⟨xo, xcap, hxe, _⟩ := hb.opened; subst hxe; have HX2 := Lib.hid hb; have HL2 := Lib.hid ((IsBits.drew ((HL1.out).keep (keep_alloc _ _))).keep (keep_below hB)); have HR2 := Lib.hid ((At2.drew ((HR1.out).alloc _)).below hB); have HB2 := Lib.hid (bthen' (((HB1.out).alloc (HB1.out).size _).drew) hB); have HZa2 : Hid (At2 w2 W0.heap.size (.int .i64 0) (.slice none 0 0)) := Lib.hid (At2.below (At2.drew (At2.new _ _ _ _)) hB); have HNa2 : Hid (W0.heap.size ≠ w1.heap.size) := Lib.hid (At2.ne HR1.out (Nat.le_refl _)); clear hb hB)
        | (go_at_call 30; (with_reducible refine (cutlo _ l X k hk' HXT.out _ ?_ hl2).mono ?_); with_reducible exact IsBits.drew (((HL1.out).keep (keep_alloc _ _)).keep (keep_alloc _ _)); rintro e w2 ⟨v2, rfl, hb, hB⟩; obtain ⟨xo, xcap, hxe, _⟩ := hb.opened; subst hxe; have HX2 := Lib.hid hb; have HL2 := Lib.hid ((IsBits.drew (((HL1.out).keep (keep_alloc _ _)).keep (keep_alloc _ _))).keep (keep_below hB)); have HR2 := Lib.hid ((At2.drew (((HR1.out).alloc _).alloc _)).below hB); have HB2 := Lib.hid (bthen' ((((HB1.out).alloc (HB1.out).size _).alloc ((HB1.out).alloc (HB1.out).size _).size _).drew) hB); have HZa2 : Hid (At2 w2 W0.heap.size (.int .i64 0) (.slice none 0 0)) := Lib.hid (At2.below (At2.drew ((At2.new _ _ _ _).alloc _)) hB); have HNa2 : Hid (W0.heap.size ≠ w1.heap.size) := Lib.hid (At2.ne HR1.out (Nat.le_refl _)); have HZb2 : Hid (At2 w2 (W0.heap.size + 1) (.int .i64 0) (.slice none 0 0)) := Lib.hid (At2.below (At2.drew (At2.new2 _ _ _ _ _)) hB); have HNb2 : Hid ((W0.heap.size + 1) ≠ w1.heap.size) := Lib.hid (At2.ne HR1.out (Nat.le_succ _)); clear hb hB)
        | (have hza := HZa2; have hzb := HZb2; go_at_call 30; (with_reducible refine (cuthi _ l Y k hk' HYT.out _ ?_ hl2).mono ?_); with_reducible exact HL2.out; rintro e w3 ⟨v3, rfl, hb, hB⟩; obtain ⟨yo, ycap, hye, _⟩ := hb.opened; subst hye; have HY3 := Lib.hid hb; have HX3 := Lib.hid ((HX2.out).keep (keep_below hB)); have HL3 := Lib.hid ((HL2.out).keep (keep_below hB)); have HR3 := Lib.hid ((HR2.out).below hB); have HB3 := Lib.hid (bthen' (HB2.out) hB); have HZa3 := Lib.hid ((HZa2.out).below hB); have hna := HNa2.out; have HZb3 := Lib.hid ((HZb2.out).below hB); have hnb := HNb2.out; have zla := At2.lt HZa3.out; have z0a := At2.c0 HZa3.out; have z1a := At2.c1 HZa3.out; have zfa := At2.fz HZa3.out; have zlb := At2.lt HZb3.out; have z0b := At2.c0 HZb3.out; have z1b := At2.c1 HZb3.out; have zfb := At2.fz HZb3.out; have hla : W0.heap.size ≠ w3.heap.size := Nat.ne_of_lt zla; have hma : w3.heap.size ≠ W0.heap.size := Nat.ne_of_gt zla; have hlb : (W0.heap.size + 1) ≠ w3.heap.size := Nat.ne_of_lt zlb; have hmb : w3.heap.size ≠ (W0.heap.size + 1) := Nat.ne_of_gt zlb; have hga : w.heap.size ≤ W0.heap.size := HB1.out.size; have hgb : w.heap.size ≤ (W0.heap.size + 1) := Nat.le_succ_of_le HB1.out.size; have hab : W0.heap.size ≠ (W0.heap.size + 1) := Nat.ne_of_lt (Nat.lt_succ_self _); have hba : (W0.heap.size + 1) ≠ W0.heap.size := Nat.ne_of_gt (Nat.lt_succ_self _); have r0 := At2.c0 HR3.out; have r1 := At2.c1 HR3.out; have hn3 : w3.heap.size ≠ w1.heap.size := At2.ne HR3.out (Nat.le_refl _); have hn4 : w3.heap.size + 1 ≠ w1.heap.size := At2.ne HR3.out (Nat.le_succ _); clear hb hB)
        | (have hza := HZa2; go_at_call 30; (with_reducible refine (cuthi _ l Y k hk' HYT.out _ ?_ hl2).mono ?_); with_reducible exact HL2.out; rintro e w3 ⟨v3, rfl, hb, hB⟩; obtain ⟨yo, ycap, hye, _⟩ := hb.opened; subst hye; have HY3 := Lib.hid hb; have HX3 := Lib.hid ((HX2.out).keep (keep_below hB)); have HL3 := Lib.hid ((HL2.out).keep (keep_below hB)); have HR3 := Lib.hid ((HR2.out).below hB); have HB3 := Lib.hid (bthen' (HB2.out) hB); have HZa3 := Lib.hid ((HZa2.out).below hB); have hna := HNa2.out; have zla := At2.lt HZa3.out; have z0a := At2.c0 HZa3.out; have z1a := At2.c1 HZa3.out; have zfa := At2.fz HZa3.out; have hla : W0.heap.size ≠ w3.heap.size := Nat.ne_of_lt zla; have hma : w3.heap.size ≠ W0.heap.size := Nat.ne_of_gt zla; have hga : w.heap.size ≤ W0.heap.size := HB1.out.size; have r0 := At2.c0 HR3.out; have r1 := At2.c1 HR3.out; have hn3 : w3.heap.size ≠ w1.heap.size := At2.ne HR3.out (Nat.le_refl _); have hn4 : w3.heap.size + 1 ≠ w1.heap.size := At2.ne HR3.out (Nat.le_succ _); clear hb hB)
        | (have hza := HZa2; go_at_call 30; (with_reducible refine (cuthi _ l Y k hk' HYT.out _ ?_ hl2).mono ?_); with_reducible exact (HL2.out).keep (keep_alloc _ _); rintro e w3 ⟨v3, rfl, hb, hB⟩; obtain ⟨yo, ycap, hye, _⟩ := hb.opened; subst hye; have HY3 := Lib.hid hb; have HX3 := Lib.hid (((HX2.out).keep (keep_alloc _ _)).keep (keep_below hB)); have HL3 := Lib.hid (((HL2.out).keep (keep_alloc _ _)).keep (keep_below hB)); have HR3 := Lib.hid (((HR2.out).alloc _).below hB); have HB3 := Lib.hid (bthen' ((HB2.out).alloc (HB2.out).size _) hB); have HZa3 := Lib.hid (((HZa2.out).alloc _).below hB); have hna := HNa2.out; have HZb3 : Hid (At2 w3 w2.heap.size (.int .i64 0) (.slice none 0 0)) := Lib.hid (At2.below (At2.new _ _ _ _) hB); have hnb : w2.heap.size ≠ w1.heap.size := At2.ne HR2.out (Nat.le_refl _); have zla := At2.lt HZa3.out; have z0a := At2.c0 HZa3.out; have z1a := At2.c1 HZa3.out; have zfa := At2.fz HZa3.out; have zlb := At2.lt HZb3.out; have z0b := At2.c0 HZb3.out; have z1b := At2.c1 HZb3.out; have zfb := At2.fz HZb3.out; have hla : W0.heap.size ≠ w3.heap.size := Nat.ne_of_lt zla; have hma : w3.heap.size ≠ W0.heap.size := Nat.ne_of_gt zla; have hlb : w2.heap.size ≠ w3.heap.size := Nat.ne_of_lt zlb; have hmb : w3.heap.size ≠ w2.heap.size := Nat.ne_of_gt zlb; have hab : W0.heap.size ≠ w2.heap.size := Nat.ne_of_lt (At2.lt HZa2.out); have hba : w2.heap.size ≠ W0.heap.size := Nat.ne_of_gt (At2.lt HZa2.out); have hga : w.heap.size ≤ W0.heap.size := HB1.out.size; have hgb : w.heap.size ≤ w2.heap.size := HB2.out.size; have r0 := At2.c0 HR3.out; have r1 := At2.c1 HR3.out; have hn3 : w3.heap.size ≠ w1.heap.size := At2.ne HR3.out (Nat.le_refl _); have hn4 : w3.heap.size + 1 ≠ w1.heap.size := At2.ne HR3.out (Nat.le_succ _); clear hb hB)
        | (go_at_call 30; (with_reducible refine (cuthi _ l Y k hk' HYT.out _ ?_ hl2).mono ?_); with_reducible exact HL2.out; rintro e w3 ⟨v3, rfl, hb, hB⟩; obtain ⟨yo, ycap, hye, _⟩ := hb.opened; subst hye; have HY3 := Lib.hid hb; have HX3 := Lib.hid ((HX2.out).keep (keep_below hB)); have HL3 := Lib.hid ((HL2.out).keep (keep_below hB)); have HR3 := Lib.hid ((HR2.out).below hB); have HB3 := Lib.hid (bthen' (HB2.out) hB); have r0 := At2.c0 HR3.out; have r1 := At2.c1 HR3.out; have hn3 : w3.heap.size ≠ w1.heap.size := At2.ne HR3.out (Nat.le_refl _); have hn4 : w3.heap.size + 1 ≠ w1.heap.size := At2.ne HR3.out (Nat.le_succ _); clear hb hB)
        | (go_at_call 30; (with_reducible refine (cuthi _ l Y k hk' HYT.out _ ?_ hl2).mono ?_); with_reducible exact (HL2.out).keep (keep_alloc _ _); rintro e w3 ⟨v3, rfl, hb, hB⟩; obtain ⟨yo, ycap, hye, _⟩ := hb.opened; subst hye; have HY3 := Lib.hid hb; have HX3 := Lib.hid (((HX2.out).keep (keep_alloc _ _)).keep (keep_below hB)); have HL3 := Lib.hid (((HL2.out).keep (keep_alloc _ _)).keep (keep_below hB)); have HR3 := Lib.hid (((HR2.out).alloc _).below hB); have HB3 := Lib.hid (bthen' ((HB2.out).alloc (HB2.out).size _) hB); have HZa3 : Hid (At2 w3 w2.heap.size (.int .i64 0) (.slice none 0 0)) := Lib.hid (At2.below (At2.new _ _ _ _) hB); have hna : w2.heap.size ≠ w1.heap.size := At2.ne HR2.out (Nat.le_refl _); have zla := At2.lt HZa3.out; have z0a := At2.c0 HZa3.out; have z1a := At2.c1 HZa3.out; have zfa := At2.fz HZa3.out; have hla : w2.heap.size ≠ w3.heap.size := Nat.ne_of_lt zla; have hma : w3.heap.size ≠ w2.heap.size := Nat.ne_of_gt zla; have hga : w.heap.size ≤ w2.heap.size := HB2.out.size; have r0 := At2.c0 HR3.out; have r1 := At2.c1 HR3.out; have hn3 : w3.heap.size ≠ w1.heap.size := At2.ne HR3.out (Nat.le_refl _); have hn4 : w3.heap.size + 1 ≠ w1.heap.size := At2.ne HR3.out (Nat.le_succ _); clear hb hB)
        | (go_at_call 30; (with_reducible refine (cuthi _ l Y k hk' HYT.out _ ?_ hl2).mono ?_); with_reducible exact ((HL2.out).keep (keep_alloc _ _)).keep (keep_alloc _ _); rintro e w3 ⟨v3, rfl, hb, hB⟩; obtain ⟨yo, ycap, hye, _⟩ := hb.opened; subst hye; have HY3 := Lib.hid hb; have HX3 := Lib.hid ((((HX2.out).keep (keep_alloc _ _)).keep (keep_alloc _ _)).keep (keep_below hB)); have HL3 := Lib.hid ((((HL2.out).keep (keep_alloc _ _)).keep (keep_alloc _ _)).keep (keep_below hB)); have HR3 := Lib.hid ((((HR2.out).alloc _).alloc _).below hB); have HB3 := Lib.hid (bthen' (((HB2.out).alloc (HB2.out).size _).alloc ((HB2.out).alloc (HB2.out).size _).size _) hB); have HZa3 : Hid (At2 w3 w2.heap.size (.int .i64 0) (.slice none 0 0)) := Lib.hid (At2.below ((At2.new _ _ _ _).alloc _) hB); have hna : w2.heap.size ≠ w1.heap.size := At2.ne HR2.out (Nat.le_refl _); have HZb3 : Hid (At2 w3 (w2.heap.size + 1) (.int .i64 0) (.slice none 0 0)) := Lib.hid (At2.below (At2.new2 _ _ _ _ _) hB); have hnb : (w2.heap.size + 1) ≠ w1.heap.size := At2.ne HR2.out (Nat.le_succ _); have zla := At2.lt HZa3.out; have z0a := At2.c0 HZa3.out; have z1a := At2.c1 HZa3.out; have zfa := At2.fz HZa3.out; have zlb := At2.lt HZb3.out; have z0b := At2.c0 HZb3.out; have z1b := At2.c1 HZb3.out; have zfb := At2.fz HZb3.out; have hla : w2.heap.size ≠ w3.heap.size := Nat.ne_of_lt zla; have hma : w3.heap.size ≠ w2.heap.size := Nat.ne_of_gt zla; have hlb : (w2.heap.size + 1) ≠ w3.heap.size := Nat.ne_of_lt zlb; have hmb : w3.heap.size ≠ (w2.heap.size + 1) := Nat.ne_of_gt zlb; have hga : w.heap.size ≤ w2.heap.size := HB2.out.size; have hgb : w.heap.size ≤ (w2.heap.size + 1) := Nat.le_succ_of_le HB2.out.size; have hab : w2.heap.size ≠ (w2.heap.size + 1) := Nat.ne_of_lt (Nat.lt_succ_self _); have hba : (w2.heap.size + 1) ≠ w2.heap.size := Nat.ne_of_gt (Nat.lt_succ_self _); have r0 := At2.c0 HR3.out; have r1 := At2.c1 HR3.out; have hn3 : w3.heap.size ≠ w1.heap.size := At2.ne HR3.out (Nat.le_refl _); have hn4 : w3.heap.size + 1 ≠ w1.heap.size := At2.ne HR3.out (Nat.le_succ _); clear hb hB)))
      · with_reducible exact SMid.of (mid_aa HR3.out _ _ _ _ _ _) HX3.out HY3.out HL3.out HB3.out HB3.out.size (Nat.le_succ_of_le HB3.out.size)
      · with_reducible exact SMid.fo (mid_aa HR3.out _ _ _ _ _ _) HX3.out HY3.out HL3.out HB3.out HB3.out.size (Nat.le_succ_of_le HB3.out.size)
      · with_reducible exact SMid.of (mid_sa HZa3.out HR3.out hna _ _ _ _ _) HX3.out HY3.out HL3.out HB3.out hga HB3.out.size
      · with_reducible exact SMid.of (mid_ss HZa3.out HZb3.out HR3.out hna hnb hab _ _ _ _) HX3.out HY3.out HL3.out HB3.out hga hgb
      · with_reducible exact SMid.fo (mid_sa HZa3.out HR3.out hna _ _ _ _ _) HX3.out HY3.out HL3.out HB3.out hga HB3.out.size
      · with_reducible exact SMid.of (mid_ss HZb3.out HZa3.out HR3.out hnb hna hba _ _ _ _) HX3.out HY3.out HL3.out HB3.out hgb hga
      · with_reducible exact SMid.of (mid_sa HZa3.out HR3.out hna _ _ _ _ _) HX3.out HY3.out HL3.out HB3.out hga HB3.out.size
      · with_reducible exact SMid.of (mid_ss HZa3.out HZb3.out HR3.out hna hnb hab _ _ _ _) HX3.out HY3.out HL3.out HB3.out hga hgb
      · with_reducible exact SMid.of (mid_ss HZa3.out HZb3.out HR3.out hna hnb hab _ _ _ _) HX3.out HY3.out HL3.out HB3.out hga hgb
      · with_reducible exact SMid.fo (mid_sa HZa3.out HR3.out hna _ _ _ _ _) HX3.out HY3.out HL3.out HB3.out hga HB3.out.size
      · with_reducible exact SMid.of (mid_ss HZb3.out HZa3.out HR3.out hnb hna hba _ _ _ _) HX3.out HY3.out HL3.out HB3.out hgb hga
      · with_reducible exact SMid.of (mid_ss HZb3.out HZa3.out HR3.out hnb hna hba _ _ _ _) HX3.out HY3.out HL3.out HB3.out hgb hga
      obtain ⟨rfl, bx, by', xo, yo, xcap, ycap, rfl, ⟨xp0, xp1⟩, ⟨yp0, yp1⟩, ⟨lp0, lp1⟩, hX5, hY5, hL5, hB5⟩ := hmid
      have HX5 := Lib.hid hX5
      have HY5 := Lib.hid hY5
      have HL5 := Lib.hid hL5
      have HB5 := Lib.hid hB5
      clear hX5 hY5 hL5 hB5
      have HT5 : Hid (TabAt w') := Lib.hid (fun j hj => keep_below HB5.out _ _ (HT.out j hj))
      have C5 : Hid ((fun wS => (wS.cell? ⟨bx, 0, none⟩ = some (.int .i64 (X.length : Int)) ∧ wS.cell? ⟨bx, 1, none⟩ = some (.slice xo ((X.length + 63) / 64) xcap)) ∧ (wS.cell? ⟨by', 0, none⟩ = some (.int .i64 (Y.length : Int)) ∧ wS.cell? ⟨by', 1, none⟩ = some (.slice yo ((Y.length + 63) / 64) ycap)) ∧ (wS.cell? ⟨w1.heap.size, 0, none⟩ = some (.int .i64 (l.length : Int)) ∧ wS.cell? ⟨w1.heap.size, 1, none⟩ = some (.slice bo L bcap))) w') := Lib.hid ⟨⟨xp0, xp1⟩, ⟨yp0, yp1⟩, ⟨lp0, lp1⟩⟩
      clear HR1 HL1 HB1 HLd HRd HBd HG0 pl p0 p1
      go_wp2
      refine wp_region_held_drew (S := (fun wS => (wS.cell? ⟨bx, 0, none⟩ = some (.int .i64 (X.length : Int)) ∧ wS.cell? ⟨bx, 1, none⟩ = some (.slice xo ((X.length + 63) / 64) xcap)) ∧ (wS.cell? ⟨by', 0, none⟩ = some (.int .i64 (Y.length : Int)) ∧ wS.cell? ⟨by', 1, none⟩ = some (.slice yo ((Y.length + 63) / 64) ycap)) ∧ (wS.cell? ⟨w1.heap.size, 0, none⟩ = some (.int .i64 (l.length : Int)) ∧ wS.cell? ⟨w1.heap.size, 1, none⟩ = some (.slice bo L bcap)))) (by kernel_rfl) ⟨⟨xp0, xp1⟩, ⟨yp0, yp1⟩, ⟨lp0, lp1⟩⟩ (fun hHeld => ?_)
      refine wpAnyH_take (i := 0) (v := ?_) rfl (by kernel_rfl) (by kernel_rfl) (by kernel_rfl) (fun _ _ _ h => h) (Or.inl ⟨by rfl, ?_⟩) (by assumption) ?_
      rotate_left
      · (intro w hSw; (try dsimp only at hSw); go_simp; try with_reducible rfl)
      simp only [Act.put, List.getElem_toArray, List.getElem_cons_zero, List.setIfInBounds_toArray, List.set_cons_zero, List.set_cons_succ]
      refine wpAnyH_take (i := 2) (v := ?_) rfl (by kernel_rfl) (by kernel_rfl) (by kernel_rfl) (fun _ _ _ h => h) (Or.inl ⟨by rfl, ?_⟩) (by assumption) ?_
      rotate_left
      · (intro w hSw; (try dsimp only at hSw); go_simp; try with_reducible rfl)
      simp only [Act.put, List.getElem_toArray, List.getElem_cons_succ, List.getElem_cons_zero, List.setIfInBounds_toArray, List.set_cons_zero, List.set_cons_succ]
      refine wpAnyH_take (i := 3) (v := ?_) rfl (by kernel_rfl) (by kernel_rfl) (by kernel_rfl) (fun _ _ _ h => h) (Or.inl ⟨by rfl, ?_⟩) (by assumption) ?_
      rotate_left
      · (intro w hSw; (try dsimp only at hSw); go_simp; try with_reducible rfl)
      simp only [Act.put, List.getElem_toArray, List.getElem_cons_succ, List.getElem_cons_zero, List.setIfInBounds_toArray, List.set_cons_zero, List.set_cons_succ]
      refine wpAnyH_ready (rs := [1]) (by kernel_rfl) (by simp) ?_
      refine AllReadyH.cons (o := _) rfl (fun K hK => ?_) AllReadyH.nil
      go_simp
      (go_at_call 22; refine (count_calls _ X _ ?_ HXL.out).mono ?_; exact HX5.out; rintro e w6 ⟨rfl, hB⟩; rw [HCX.out]; have HX6 := Lib.hid (HX5.out.keep (keep_below (undrew hB))); have HY6 := Lib.hid (HY5.out.keep (keep_below (undrew hB))); have HL6 := Lib.hid (HL5.out.keep (keep_below (undrew hB))); have HB6 := Lib.hid (bthen' HB5.out (undrew hB)); have HT6 : Hid (TabAt w6) := Lib.hid (fun j hj => keep_below (undrew hB) _ _ (HT5.out j hj)); have C6 : Hid ((fun wS => (wS.cell? ⟨bx, 0, none⟩ = some (.int .i64 (X.length : Int)) ∧ wS.cell? ⟨bx, 1, none⟩ = some (.slice xo ((X.length + 63) / 64) xcap)) ∧ (wS.cell? ⟨by', 0, none⟩ = some (.int .i64 (Y.length : Int)) ∧ wS.cell? ⟨by', 1, none⟩ = some (.slice yo ((Y.length + 63) / 64) ycap)) ∧ (wS.cell? ⟨w1.heap.size, 0, none⟩ = some (.int .i64 (l.length : Int)) ∧ wS.cell? ⟨w1.heap.size, 1, none⟩ = some (.slice bo L bcap))) w6) := Lib.hid ⟨⟨keep_below (undrew hB) _ _ C5.out.1.1, keep_below (undrew hB) _ _ C5.out.1.2⟩, ⟨keep_below (undrew hB) _ _ C5.out.2.1.1, keep_below (undrew hB) _ _ C5.out.2.1.2⟩, ⟨keep_below (undrew hB) _ _ C5.out.2.2.1, keep_below (undrew hB) _ _ C5.out.2.2.2⟩⟩; clear hB)
      try go_simp
      refine hK.out _ _ ?_ (fun hHeld => ?_)
      · exact C6.out
      clear hK K
      refine wpAnyH_ready (rs := [4]) (by kernel_rfl) (by simp) ?_
      refine AllReadyH.cons (o := _) rfl (fun K hK => ?_) AllReadyH.nil
      go_simp
      (go_at_call 23; refine (rank_calls _ l _ k HMK.out _ ?_ hl2).mono ?_; exact HL6.out; rintro e w7 ⟨rfl, hB⟩; rw [HRK.out]; have HX7 := Lib.hid (HX6.out.keep (keep_below hB)); have HY7 := Lib.hid (HY6.out.keep (keep_below hB)); have HL7 := Lib.hid (HL6.out.keep (keep_below hB)); have HB7 := Lib.hid (bthen' HB6.out hB); have HT7 : Hid (TabAt w7) := Lib.hid (fun j hj => keep_below hB _ _ (HT6.out j hj)); have C7 : Hid ((fun wS => (wS.cell? ⟨bx, 0, none⟩ = some (.int .i64 (X.length : Int)) ∧ wS.cell? ⟨bx, 1, none⟩ = some (.slice xo ((X.length + 63) / 64) xcap)) ∧ (wS.cell? ⟨by', 0, none⟩ = some (.int .i64 (Y.length : Int)) ∧ wS.cell? ⟨by', 1, none⟩ = some (.slice yo ((Y.length + 63) / 64) ycap)) ∧ (wS.cell? ⟨w1.heap.size, 0, none⟩ = some (.int .i64 (l.length : Int)) ∧ wS.cell? ⟨w1.heap.size, 1, none⟩ = some (.slice bo L bcap))) w7) := Lib.hid ⟨⟨keep_below hB _ _ C6.out.1.1, keep_below hB _ _ C6.out.1.2⟩, ⟨keep_below hB _ _ C6.out.2.1.1, keep_below hB _ _ C6.out.2.1.2⟩, ⟨keep_below hB _ _ C6.out.2.2.1, keep_below hB _ _ C6.out.2.2.2⟩⟩; clear hB HX6 HY6 HL6 HB6 HT6 C6)
      try go_simp
      refine hK.out _ _ ?_ (fun hHeld => ?_)
      · exact C7.out
      clear hK K
      refine wpAnyH_take (i := 5) (v := ?_) rfl (by kernel_rfl) (by kernel_rfl) (by kernel_rfl) (fun _ _ _ h => h) (Or.inl ⟨by rfl, ?_⟩) (by assumption) ?_
      rotate_left
      · (intro w hSw; (try dsimp only at hSw); go_simp; try with_reducible rfl)
      simp only [Act.put, List.getElem_toArray, List.getElem_cons_succ, List.getElem_cons_zero, List.setIfInBounds_toArray, List.set_cons_zero, List.set_cons_succ]
      refine wpAnyH_take (i := 6) (v := ?_) rfl (by kernel_rfl) (by kernel_rfl) (by kernel_rfl) (fun _ _ _ h => h) (Or.inl ⟨by rfl, ?_⟩) (by assumption) ?_
      rotate_left
      · (intro w hSw; (try dsimp only at hSw); go_simp; try with_reducible rfl)
      simp only [Act.put, List.getElem_toArray, List.getElem_cons_succ, List.getElem_cons_zero, List.setIfInBounds_toArray, List.set_cons_zero, List.set_cons_succ]
      refine wpAnyH_take (i := 7) (v := ?_) rfl (by kernel_rfl) (by kernel_rfl) (by kernel_rfl) (fun _ _ _ h => h) (Or.inl ⟨by rfl, ?_⟩) (by assumption) ?_
      rotate_left
      · (intro w hSw; (try dsimp only at hSw); go_simp; try with_reducible rfl)
      simp only [Act.put, List.getElem_toArray, List.getElem_cons_succ, List.getElem_cons_zero, List.setIfInBounds_toArray, List.set_cons_zero, List.set_cons_succ]
      refine wpAnyH_take (i := 9) (v := ?_) rfl (by kernel_rfl) (by kernel_rfl) (by kernel_rfl) (fun _ _ _ h => h) (Or.inl ⟨by rfl, ?_⟩) (by assumption) ?_
      rotate_left
      · (intro w hSw; (try dsimp only at hSw); go_simp; try with_reducible rfl)
      simp only [Act.put, List.getElem_toArray, List.getElem_cons_succ, List.getElem_cons_zero, List.setIfInBounds_toArray, List.set_cons_zero, List.set_cons_succ]
      refine wpAnyH_take (i := 12) (v := ?_) rfl (by kernel_rfl) (by kernel_rfl) (by kernel_rfl) (fun _ _ _ h => h) (Or.inl ⟨by rfl, ?_⟩) (by assumption) ?_
      rotate_left
      · (intro w hSw; (try dsimp only at hSw); go_simp; try with_reducible rfl)
      simp only [Act.put, List.getElem_toArray, List.getElem_cons_succ, List.getElem_cons_zero, List.setIfInBounds_toArray, List.set_cons_zero, List.set_cons_succ]
      refine wpAnyH_ready (rs := [8]) (by kernel_rfl) (by simp) ?_
      refine AllReadyH.cons (o := _) rfl (fun K hK => ?_) AllReadyH.nil
      go_simp
      (go_at_call 22; refine (count_calls _ X _ ?_ HXL.out).mono ?_; exact HX7.out; rintro e w8 ⟨rfl, hB⟩; rw [HCX.out]; have HX8 := Lib.hid (HX7.out.keep (keep_below hB)); have HY8 := Lib.hid (HY7.out.keep (keep_below hB)); have HL8 := Lib.hid (HL7.out.keep (keep_below hB)); have HB8 := Lib.hid (bthen' HB7.out hB); have HT8 : Hid (TabAt w8) := Lib.hid (fun j hj => keep_below hB _ _ (HT7.out j hj)); have C8 : Hid ((fun wS => (wS.cell? ⟨bx, 0, none⟩ = some (.int .i64 (X.length : Int)) ∧ wS.cell? ⟨bx, 1, none⟩ = some (.slice xo ((X.length + 63) / 64) xcap)) ∧ (wS.cell? ⟨by', 0, none⟩ = some (.int .i64 (Y.length : Int)) ∧ wS.cell? ⟨by', 1, none⟩ = some (.slice yo ((Y.length + 63) / 64) ycap)) ∧ (wS.cell? ⟨w1.heap.size, 0, none⟩ = some (.int .i64 (l.length : Int)) ∧ wS.cell? ⟨w1.heap.size, 1, none⟩ = some (.slice bo L bcap))) w8) := Lib.hid ⟨⟨keep_below hB _ _ C7.out.1.1, keep_below hB _ _ C7.out.1.2⟩, ⟨keep_below hB _ _ C7.out.2.1.1, keep_below hB _ _ C7.out.2.1.2⟩, ⟨keep_below hB _ _ C7.out.2.2.1, keep_below hB _ _ C7.out.2.2.2⟩⟩; clear hB HX7 HY7 HL7 HB7 HT7 C7)
      try go_simp
      refine hK.out _ _ ?_ (fun hHeld => ?_)
      · exact C8.out
      clear hK K
      refine wpAnyH_ready (rs := [10]) (by kernel_rfl) (by simp) ?_
      refine AllReadyH.cons (o := _) rfl (fun K hK => ?_) AllReadyH.nil
      go_simp
      (go_at_call 22; refine (count_calls _ Y _ ?_ HYL.out).mono ?_; exact HY8.out; rintro e w9 ⟨rfl, hB⟩; rw [HCY.out]; have HX9 := Lib.hid (HX8.out.keep (keep_below hB)); have HY9 := Lib.hid (HY8.out.keep (keep_below hB)); have HL9 := Lib.hid (HL8.out.keep (keep_below hB)); have HB9 := Lib.hid (bthen' HB8.out hB); have HT9 : Hid (TabAt w9) := Lib.hid (fun j hj => keep_below hB _ _ (HT8.out j hj)); have C9 : Hid ((fun wS => (wS.cell? ⟨bx, 0, none⟩ = some (.int .i64 (X.length : Int)) ∧ wS.cell? ⟨bx, 1, none⟩ = some (.slice xo ((X.length + 63) / 64) xcap)) ∧ (wS.cell? ⟨by', 0, none⟩ = some (.int .i64 (Y.length : Int)) ∧ wS.cell? ⟨by', 1, none⟩ = some (.slice yo ((Y.length + 63) / 64) ycap)) ∧ (wS.cell? ⟨w1.heap.size, 0, none⟩ = some (.int .i64 (l.length : Int)) ∧ wS.cell? ⟨w1.heap.size, 1, none⟩ = some (.slice bo L bcap))) w9) := Lib.hid ⟨⟨keep_below hB _ _ C8.out.1.1, keep_below hB _ _ C8.out.1.2⟩, ⟨keep_below hB _ _ C8.out.2.1.1, keep_below hB _ _ C8.out.2.1.2⟩, ⟨keep_below hB _ _ C8.out.2.2.1, keep_below hB _ _ C8.out.2.2.2⟩⟩; clear hB HX8 HY8 HL8 HB8 HT8 C8)
      try go_simp
      refine hK.out _ _ ?_ (fun hHeld => ?_)
      · exact C9.out
      clear hK K
      refine wpAnyH_take (i := 11) (v := ?_) rfl (by kernel_rfl) (by kernel_rfl) (by kernel_rfl) (fun _ _ _ h => h) (Or.inl ⟨by rfl, ?_⟩) (by assumption) ?_
      rotate_left
      · (intro w hSw; (try dsimp only at hSw); go_simp; try with_reducible rfl)
      simp only [Act.put, List.getElem_toArray, List.getElem_cons_succ, List.getElem_cons_zero, List.setIfInBounds_toArray, List.set_cons_zero, List.set_cons_succ]
      refine wpAnyH_ready (rs := [13]) (by kernel_rfl) (by simp) ?_
      refine AllReadyH.cons (o := _) rfl (fun K hK => ?_) AllReadyH.nil
      go_simp
      (go_at_call 22; refine (count_calls _ l _ ?_ hl2).mono ?_; exact HL9.out; rintro e w10 ⟨rfl, hB⟩; rw [HCB.out]; have HX10 := Lib.hid (HX9.out.keep (keep_below hB)); have HY10 := Lib.hid (HY9.out.keep (keep_below hB)); have HL10 := Lib.hid (HL9.out.keep (keep_below hB)); have HB10 := Lib.hid (bthen' HB9.out hB); have HT10 : Hid (TabAt w10) := Lib.hid (fun j hj => keep_below hB _ _ (HT9.out j hj)); have C10 : Hid ((fun wS => (wS.cell? ⟨bx, 0, none⟩ = some (.int .i64 (X.length : Int)) ∧ wS.cell? ⟨bx, 1, none⟩ = some (.slice xo ((X.length + 63) / 64) xcap)) ∧ (wS.cell? ⟨by', 0, none⟩ = some (.int .i64 (Y.length : Int)) ∧ wS.cell? ⟨by', 1, none⟩ = some (.slice yo ((Y.length + 63) / 64) ycap)) ∧ (wS.cell? ⟨w1.heap.size, 0, none⟩ = some (.int .i64 (l.length : Int)) ∧ wS.cell? ⟨w1.heap.size, 1, none⟩ = some (.slice bo L bcap))) w10) := Lib.hid ⟨⟨keep_below hB _ _ C9.out.1.1, keep_below hB _ _ C9.out.1.2⟩, ⟨keep_below hB _ _ C9.out.2.1.1, keep_below hB _ _ C9.out.2.1.2⟩, ⟨keep_below hB _ _ C9.out.2.2.1, keep_below hB _ _ C9.out.2.2.2⟩⟩; clear hB HX9 HY9 HL9 HB9 HT9 C9)
      try go_simp
      refine hK.out _ _ ?_ (fun hHeld => ?_)
      · exact C10.out
      clear hK K
      refine wpAnyH_take (i := 14) (v := ?_) rfl (by kernel_rfl) (by kernel_rfl) (by kernel_rfl) (fun _ _ _ h => h) (Or.inl ⟨by rfl, ?_⟩) (by assumption) ?_
      rotate_left
      · (intro w hSw; (try dsimp only at hSw); go_simp; try with_reducible rfl)
      simp only [Act.put, List.getElem_toArray, List.getElem_cons_succ, List.getElem_cons_zero, List.setIfInBounds_toArray, List.set_cons_zero, List.set_cons_succ]
      refine wpAnyH_take (i := 15) (v := ?_) rfl (by kernel_rfl) (by kernel_rfl) (by kernel_rfl) (fun _ _ _ h => h) (Or.inl ⟨by rfl, ?_⟩) (by assumption) ?_
      rotate_left
      · (intro w hSw; (try dsimp only at hSw); go_simp; try with_reducible rfl)
      simp only [Act.put, List.getElem_toArray, List.getElem_cons_succ, List.getElem_cons_zero, List.setIfInBounds_toArray, List.set_cons_zero, List.set_cons_succ]
      refine wpAnyH_take (i := 16) (v := ?_) rfl (by kernel_rfl) (by kernel_rfl) (by kernel_rfl) (fun _ _ _ h => h) (Or.inl ⟨by rfl, ?_⟩) (by assumption) ?_
      rotate_left
      · (intro w hSw; (try dsimp only at hSw); go_simp; try with_reducible rfl)
      simp only [Act.put, List.getElem_toArray, List.getElem_cons_succ, List.getElem_cons_zero, List.setIfInBounds_toArray, List.set_cons_zero, List.set_cons_succ]
      refine wpAnyH_take (i := 17) (v := ?_) rfl (by kernel_rfl) (by kernel_rfl) (by kernel_rfl) (fun _ _ _ h => h) (Or.inl ⟨by rfl, ?_⟩) (by assumption) ?_
      rotate_left
      · (intro w hSw; (try dsimp only at hSw); go_simp; try with_reducible rfl)
      simp only [Act.put, List.getElem_toArray, List.getElem_cons_succ, List.getElem_cons_zero, List.setIfInBounds_toArray, List.set_cons_zero, List.set_cons_succ]
      refine wpAnyH_ready (rs := [18]) (by kernel_rfl) (by simp) ?_
      refine AllReadyH.cons (o := _) rfl (fun K hK => ?_) AllReadyH.nil
      go_simp
      (go_at_call 22; refine (count_calls _ X _ ?_ HXL.out).mono ?_; exact HX10.out; rintro e w11 ⟨rfl, hB⟩; rw [HCX.out]; have HX11 := Lib.hid (HX10.out.keep (keep_below hB)); have HY11 := Lib.hid (HY10.out.keep (keep_below hB)); have HL11 := Lib.hid (HL10.out.keep (keep_below hB)); have HB11 := Lib.hid (bthen' HB10.out hB); have HT11 : Hid (TabAt w11) := Lib.hid (fun j hj => keep_below hB _ _ (HT10.out j hj)); have C11 : Hid ((fun wS => (wS.cell? ⟨bx, 0, none⟩ = some (.int .i64 (X.length : Int)) ∧ wS.cell? ⟨bx, 1, none⟩ = some (.slice xo ((X.length + 63) / 64) xcap)) ∧ (wS.cell? ⟨by', 0, none⟩ = some (.int .i64 (Y.length : Int)) ∧ wS.cell? ⟨by', 1, none⟩ = some (.slice yo ((Y.length + 63) / 64) ycap)) ∧ (wS.cell? ⟨w1.heap.size, 0, none⟩ = some (.int .i64 (l.length : Int)) ∧ wS.cell? ⟨w1.heap.size, 1, none⟩ = some (.slice bo L bcap))) w11) := Lib.hid ⟨⟨keep_below hB _ _ C10.out.1.1, keep_below hB _ _ C10.out.1.2⟩, ⟨keep_below hB _ _ C10.out.2.1.1, keep_below hB _ _ C10.out.2.1.2⟩, ⟨keep_below hB _ _ C10.out.2.2.1, keep_below hB _ _ C10.out.2.2.2⟩⟩; clear hB HX10 HY10 HL10 HB10 HT10 C10)
      try go_simp
      refine hK.out _ _ ?_ (fun hHeld => ?_)
      · exact C11.out
      clear hK K
      refine wpAnyH_take (i := 19) (v := ?_) rfl (by kernel_rfl) (by kernel_rfl) (by kernel_rfl) (fun _ _ _ h => h) (Or.inl ⟨by rfl, ?_⟩) (by assumption) ?_
      rotate_left
      · (intro w hSw; (try dsimp only at hSw); go_simp; try with_reducible rfl)
      simp only [Act.put, List.getElem_toArray, List.getElem_cons_succ, List.getElem_cons_zero, List.setIfInBounds_toArray, List.set_cons_zero, List.set_cons_succ]
      refine wpAnyH_take (i := 20) (v := ?_) rfl (by kernel_rfl) (by kernel_rfl) (by kernel_rfl) (fun _ _ _ h => h) (Or.inl ⟨by rfl, ?_⟩) (by assumption) ?_
      rotate_left
      · (intro w hSw; (try dsimp only at hSw); go_simp; try with_reducible rfl)
      simp only [Act.put, List.getElem_toArray, List.getElem_cons_succ, List.getElem_cons_zero, List.setIfInBounds_toArray, List.set_cons_zero, List.set_cons_succ]
      refine wpAnyH_take (i := 21) (v := ?_) rfl (by kernel_rfl) (by kernel_rfl) (by kernel_rfl) (fun _ _ _ h => h) (Or.inl ⟨by rfl, ?_⟩) (by assumption) ?_
      rotate_left
      · (intro w hSw; (try dsimp only at hSw); go_simp; try with_reducible rfl)
      simp only [Act.put, List.getElem_toArray, List.getElem_cons_succ, List.getElem_cons_zero, List.setIfInBounds_toArray, List.set_cons_zero, List.set_cons_succ]
      refine wpAnyH_take (i := 23) (v := ?_) rfl (by kernel_rfl) (by kernel_rfl) (by kernel_rfl) (fun _ _ _ h => h) (Or.inl ⟨by rfl, ?_⟩) (by assumption) ?_
      rotate_left
      · (intro w hSw; (try dsimp only at hSw); go_simp; try with_reducible rfl)
      simp only [Act.put, List.getElem_toArray, List.getElem_cons_succ, List.getElem_cons_zero, List.setIfInBounds_toArray, List.set_cons_zero, List.set_cons_succ]
      refine wpAnyH_ready (rs := [22]) (by kernel_rfl) (by simp) ?_
      refine AllReadyH.cons (o := _) rfl (fun K hK => ?_) AllReadyH.nil
      go_simp
      (go_at_call 24; refine (first_calls _ X _ ?_ HXL.out ?_).mono ?_; exact HX11.out; exact HT11.out; rintro e w12 ⟨rfl, hB⟩; rw [HFX.out]; have HX12 := Lib.hid (HX11.out.keep (keep_below hB)); have HY12 := Lib.hid (HY11.out.keep (keep_below hB)); have HL12 := Lib.hid (HL11.out.keep (keep_below hB)); have HB12 := Lib.hid (bthen' HB11.out hB); have HT12 : Hid (TabAt w12) := Lib.hid (fun j hj => keep_below hB _ _ (HT11.out j hj)); have C12 : Hid ((fun wS => (wS.cell? ⟨bx, 0, none⟩ = some (.int .i64 (X.length : Int)) ∧ wS.cell? ⟨bx, 1, none⟩ = some (.slice xo ((X.length + 63) / 64) xcap)) ∧ (wS.cell? ⟨by', 0, none⟩ = some (.int .i64 (Y.length : Int)) ∧ wS.cell? ⟨by', 1, none⟩ = some (.slice yo ((Y.length + 63) / 64) ycap)) ∧ (wS.cell? ⟨w1.heap.size, 0, none⟩ = some (.int .i64 (l.length : Int)) ∧ wS.cell? ⟨w1.heap.size, 1, none⟩ = some (.slice bo L bcap))) w12) := Lib.hid ⟨⟨keep_below hB _ _ C11.out.1.1, keep_below hB _ _ C11.out.1.2⟩, ⟨keep_below hB _ _ C11.out.2.1.1, keep_below hB _ _ C11.out.2.1.2⟩, ⟨keep_below hB _ _ C11.out.2.2.1, keep_below hB _ _ C11.out.2.2.2⟩⟩; clear hB HX11 HY11 HL11 HB11 HT11 C11)
      try go_simp
      refine hK.out _ _ ?_ (fun hHeld => ?_)
      · exact C12.out
      clear hK K
      refine wpAnyH_ready (rs := [24]) (by kernel_rfl) (by simp) ?_
      refine AllReadyH.cons (o := _) rfl (fun K hK => ?_) AllReadyH.nil
      go_simp
      (go_at_call 24; refine (first_calls _ l _ ?_ hl2 ?_).mono ?_; exact HL12.out; exact HT12.out; rintro e w13 ⟨rfl, hB⟩; rw [HFB.out]; have HX13 := Lib.hid (HX12.out.keep (keep_below hB)); have HY13 := Lib.hid (HY12.out.keep (keep_below hB)); have HL13 := Lib.hid (HL12.out.keep (keep_below hB)); have HB13 := Lib.hid (bthen' HB12.out hB); have HT13 : Hid (TabAt w13) := Lib.hid (fun j hj => keep_below hB _ _ (HT12.out j hj)); have C13 : Hid ((fun wS => (wS.cell? ⟨bx, 0, none⟩ = some (.int .i64 (X.length : Int)) ∧ wS.cell? ⟨bx, 1, none⟩ = some (.slice xo ((X.length + 63) / 64) xcap)) ∧ (wS.cell? ⟨by', 0, none⟩ = some (.int .i64 (Y.length : Int)) ∧ wS.cell? ⟨by', 1, none⟩ = some (.slice yo ((Y.length + 63) / 64) ycap)) ∧ (wS.cell? ⟨w1.heap.size, 0, none⟩ = some (.int .i64 (l.length : Int)) ∧ wS.cell? ⟨w1.heap.size, 1, none⟩ = some (.slice bo L bcap))) w13) := Lib.hid ⟨⟨keep_below hB _ _ C12.out.1.1, keep_below hB _ _ C12.out.1.2⟩, ⟨keep_below hB _ _ C12.out.2.1.1, keep_below hB _ _ C12.out.2.1.2⟩, ⟨keep_below hB _ _ C12.out.2.2.1, keep_below hB _ _ C12.out.2.2.2⟩⟩; clear hB HX12 HY12 HL12 HB12 HT12 C12)
      try go_simp
      refine hK.out _ _ ?_ (fun hHeld => ?_)
      · exact C13.out
      clear hK K
      refine wpAnyH_take (i := 25) (v := ?_) rfl (by kernel_rfl) (by kernel_rfl) (by kernel_rfl) (fun _ _ _ h => h) (Or.inl ⟨by rfl, ?_⟩) (by assumption) ?_
      rotate_left
      · (intro w hSw; (try dsimp only at hSw); go_simp; try with_reducible rfl)
      simp only [Act.put, List.getElem_toArray, List.getElem_cons_succ, List.getElem_cons_zero, List.setIfInBounds_toArray, List.set_cons_zero, List.set_cons_succ]
      refine wpAnyH_take (i := 26) (v := ?_) rfl (by kernel_rfl) (by kernel_rfl) (by kernel_rfl) (fun _ _ _ h => h) (Or.inl ⟨by rfl, ?_⟩) (by assumption) ?_
      rotate_left
      · (intro w hSw; (try dsimp only at hSw); go_simp; try with_reducible rfl)
      simp only [Act.put, List.getElem_toArray, List.getElem_cons_succ, List.getElem_cons_zero, List.setIfInBounds_toArray, List.set_cons_zero, List.set_cons_succ]
      refine wpAnyH_take (i := 27) (v := ?_) rfl (by kernel_rfl) (by kernel_rfl) (by kernel_rfl) (fun _ _ _ h => h) (Or.inl ⟨by rfl, ?_⟩) (by assumption) ?_
      rotate_left
      · (intro w hSw; (try dsimp only at hSw); go_simp; try with_reducible rfl)
      simp only [Act.put, List.getElem_toArray, List.getElem_cons_succ, List.getElem_cons_zero, List.setIfInBounds_toArray, List.set_cons_zero, List.set_cons_succ]
      refine wpAnyH_take (i := 28) (v := ?_) rfl (by kernel_rfl) (by kernel_rfl) (by kernel_rfl) (fun _ _ _ h => h) (Or.inl ⟨by rfl, ?_⟩) (by assumption) ?_
      rotate_left
      · (intro w hSw; (try dsimp only at hSw); go_simp; try with_reducible rfl)
      simp only [Act.put, List.getElem_toArray, List.getElem_cons_succ, List.getElem_cons_zero, List.setIfInBounds_toArray, List.set_cons_zero, List.set_cons_succ]
      refine wpAnyH_take (i := 29) (v := ?_) rfl (by kernel_rfl) (by kernel_rfl) (by kernel_rfl) (fun _ _ _ h => h) (Or.inl ⟨by rfl, ?_⟩) (by assumption) ?_
      rotate_left
      · (intro w hSw; (try dsimp only at hSw); go_simp; try with_reducible rfl)
      simp only [Act.put, List.getElem_toArray, List.getElem_cons_succ, List.getElem_cons_zero, List.setIfInBounds_toArray, List.set_cons_zero, List.set_cons_succ]
      refine wpAnyH_ready (rs := [30]) (by kernel_rfl) (by simp) ?_
      refine AllReadyH.cons (o := _) rfl (fun K hK => ?_) AllReadyH.nil
      go_simp
      (go_at_call 22; refine (count_calls _ X _ ?_ HXL.out).mono ?_; exact HX13.out; rintro e w14 ⟨rfl, hB⟩; rw [HCX.out]; have HX14 := Lib.hid (HX13.out.keep (keep_below hB)); have HY14 := Lib.hid (HY13.out.keep (keep_below hB)); have HL14 := Lib.hid (HL13.out.keep (keep_below hB)); have HB14 := Lib.hid (bthen' HB13.out hB); have HT14 : Hid (TabAt w14) := Lib.hid (fun j hj => keep_below hB _ _ (HT13.out j hj)); have C14 : Hid ((fun wS => (wS.cell? ⟨bx, 0, none⟩ = some (.int .i64 (X.length : Int)) ∧ wS.cell? ⟨bx, 1, none⟩ = some (.slice xo ((X.length + 63) / 64) xcap)) ∧ (wS.cell? ⟨by', 0, none⟩ = some (.int .i64 (Y.length : Int)) ∧ wS.cell? ⟨by', 1, none⟩ = some (.slice yo ((Y.length + 63) / 64) ycap)) ∧ (wS.cell? ⟨w1.heap.size, 0, none⟩ = some (.int .i64 (l.length : Int)) ∧ wS.cell? ⟨w1.heap.size, 1, none⟩ = some (.slice bo L bcap))) w14) := Lib.hid ⟨⟨keep_below hB _ _ C13.out.1.1, keep_below hB _ _ C13.out.1.2⟩, ⟨keep_below hB _ _ C13.out.2.1.1, keep_below hB _ _ C13.out.2.1.2⟩, ⟨keep_below hB _ _ C13.out.2.2.1, keep_below hB _ _ C13.out.2.2.2⟩⟩; clear hB HX13 HY13 HL13 HB13 HT13 C13)
      try go_simp
      refine hK.out _ _ ?_ (fun hHeld => ?_)
      · exact C14.out
      clear hK K
      refine wpAnyH_take (i := 31) (v := ?_) rfl (by kernel_rfl) (by kernel_rfl) (by kernel_rfl) (fun _ _ _ h => h) (Or.inl ⟨by rfl, ?_⟩) (by assumption) ?_
      rotate_left
      · (intro w hSw; (try dsimp only at hSw); go_simp; try with_reducible rfl)
      simp only [Act.put, List.getElem_toArray, List.getElem_cons_succ, List.getElem_cons_zero, List.setIfInBounds_toArray, List.set_cons_zero, List.set_cons_succ]
      refine wpAnyH_take (i := 32) (v := ?_) rfl (by kernel_rfl) (by kernel_rfl) (by kernel_rfl) (fun _ _ _ h => h) (Or.inl ⟨by rfl, ?_⟩) (by assumption) ?_
      rotate_left
      · (intro w hSw; (try dsimp only at hSw); go_simp; try with_reducible rfl)
      simp only [Act.put, List.getElem_toArray, List.getElem_cons_succ, List.getElem_cons_zero, List.setIfInBounds_toArray, List.set_cons_zero, List.set_cons_succ]
      refine wpAnyH_take (i := 33) (v := undef) rfl (by kernel_rfl) (by kernel_rfl) (by kernel_rfl) (fun _ _ _ h => h) (Or.inr ⟨by rfl, rfl⟩) (by assumption) ?_
      simp only [Act.put, List.getElem_toArray, List.getElem_cons_succ, List.getElem_cons_zero, List.setIfInBounds_toArray, List.set_cons_zero, List.set_cons_succ]
      refine wpAnyH_take (i := 34) (v := undef) rfl (by kernel_rfl) (by kernel_rfl) (by kernel_rfl) (fun _ _ _ h => h) (Or.inr ⟨by rfl, rfl⟩) (by assumption) ?_
      simp only [Act.put, List.getElem_toArray, List.getElem_cons_succ, List.getElem_cons_zero, List.setIfInBounds_toArray, List.set_cons_zero, List.set_cons_succ]
      refine wpAnyH_take (i := 35) (v := undef) rfl (by kernel_rfl) (by kernel_rfl) (by kernel_rfl) (fun _ _ _ h => h) (Or.inr ⟨by rfl, rfl⟩) (by assumption) ?_
      simp only [Act.put, List.getElem_toArray, List.getElem_cons_succ, List.getElem_cons_zero, List.setIfInBounds_toArray, List.set_cons_zero, List.set_cons_succ]
      refine wpAnyH_take (i := 36) (v := undef) rfl (by kernel_rfl) (by kernel_rfl) (by kernel_rfl) (fun _ _ _ h => h) (Or.inr ⟨by rfl, rfl⟩) (by assumption) ?_
      simp only [Act.put, List.getElem_toArray, List.getElem_cons_succ, List.getElem_cons_zero, List.setIfInBounds_toArray, List.set_cons_zero, List.set_cons_succ]
      refine wpAnyH_take (i := 37) (v := undef) rfl (by kernel_rfl) (by kernel_rfl) (by kernel_rfl) (fun _ _ _ h => h) (Or.inr ⟨by rfl, rfl⟩) (by assumption) ?_
      simp only [Act.put, List.getElem_toArray, List.getElem_cons_succ, List.getElem_cons_zero, List.setIfInBounds_toArray, List.set_cons_zero, List.set_cons_succ]
      refine wpAnyH_take (i := 38) (v := undef) rfl (by kernel_rfl) (by kernel_rfl) (by kernel_rfl) (fun _ _ _ h => h) (Or.inr ⟨by rfl, rfl⟩) (by assumption) ?_
      simp only [Act.put, List.getElem_toArray, List.getElem_cons_succ, List.getElem_cons_zero, List.setIfInBounds_toArray, List.set_cons_zero, List.set_cons_succ]
      refine wpAnyH_take (i := 39) (v := undef) rfl (by kernel_rfl) (by kernel_rfl) (by kernel_rfl) (fun _ _ _ h => h) (Or.inr ⟨by rfl, rfl⟩) (by assumption) ?_
      simp only [Act.put, List.getElem_toArray, List.getElem_cons_succ, List.getElem_cons_zero, List.setIfInBounds_toArray, List.set_cons_zero, List.set_cons_succ]
      refine wpAnyH_take (i := 40) (v := ?_) rfl (by kernel_rfl) (by kernel_rfl) (by kernel_rfl) (fun _ _ _ h => h) (Or.inl ⟨by rfl, ?_⟩) (by assumption) ?_
      rotate_left
      · (intro w hSw; (try dsimp only at hSw); go_simp; try with_reducible rfl)
      simp only [Act.put, List.getElem_toArray, List.getElem_cons_succ, List.getElem_cons_zero, List.setIfInBounds_toArray, List.set_cons_zero, List.set_cons_succ]
      refine wpAnyH_take (i := 41) (v := ?_) rfl (by kernel_rfl) (by kernel_rfl) (by kernel_rfl) (fun _ _ _ h => h) (Or.inl ⟨by rfl, ?_⟩) (by assumption) ?_
      rotate_left
      · (intro w hSw; (try dsimp only at hSw); go_simp; try with_reducible rfl)
      simp only [Act.put, List.getElem_toArray, List.getElem_cons_succ, List.getElem_cons_zero, List.setIfInBounds_toArray, List.set_cons_zero, List.set_cons_succ]
      refine wpAnyH_take (i := 42) (v := ?_) rfl (by kernel_rfl) (by kernel_rfl) (by kernel_rfl) (fun _ _ _ h => h) (Or.inl ⟨by rfl, ?_⟩) (by assumption) ?_
      rotate_left
      · (intro w hSw; (try dsimp only at hSw); go_simp; try with_reducible rfl)
      simp only [Act.put, List.getElem_toArray, List.getElem_cons_succ, List.getElem_cons_zero, List.setIfInBounds_toArray, List.set_cons_zero, List.set_cons_succ]
      refine wpAnyH_ready (rs := [43]) (by kernel_rfl) (by simp) ?_
      refine AllReadyH.cons (o := _) rfl (fun K hK => ?_) AllReadyH.nil
      go_simp
      (go_at_call 9; refine (awake_calls _ ?_).mono ?_; exact HT14.out; rintro e w15 ⟨rfl, hB⟩; have HX15 := Lib.hid (HX14.out.keep (keep_below hB)); have HY15 := Lib.hid (HY14.out.keep (keep_below hB)); have HL15 := Lib.hid (HL14.out.keep (keep_below hB)); have HB15 := Lib.hid (bthen' HB14.out hB); have HT15 : Hid (TabAt w15) := Lib.hid (fun j hj => keep_below hB _ _ (HT14.out j hj)); have C15 : Hid ((fun wS => (wS.cell? ⟨bx, 0, none⟩ = some (.int .i64 (X.length : Int)) ∧ wS.cell? ⟨bx, 1, none⟩ = some (.slice xo ((X.length + 63) / 64) xcap)) ∧ (wS.cell? ⟨by', 0, none⟩ = some (.int .i64 (Y.length : Int)) ∧ wS.cell? ⟨by', 1, none⟩ = some (.slice yo ((Y.length + 63) / 64) ycap)) ∧ (wS.cell? ⟨w1.heap.size, 0, none⟩ = some (.int .i64 (l.length : Int)) ∧ wS.cell? ⟨w1.heap.size, 1, none⟩ = some (.slice bo L bcap))) w15) := Lib.hid ⟨⟨keep_below hB _ _ C14.out.1.1, keep_below hB _ _ C14.out.1.2⟩, ⟨keep_below hB _ _ C14.out.2.1.1, keep_below hB _ _ C14.out.2.1.2⟩, ⟨keep_below hB _ _ C14.out.2.2.1, keep_below hB _ _ C14.out.2.2.2⟩⟩; have HBZ := HB15; clear hB HX14 HY14 HL14 HB14 HT14 C14)
      try go_simp
      refine hK.out _ _ ?_ (fun hHeld => ?_)
      · exact C15.out
      clear hK K
      refine wpAnyH_take (i := 44) (v := ?_) rfl (by kernel_rfl) (by kernel_rfl) (by kernel_rfl) (fun _ _ _ h => h) (Or.inl ⟨by rfl, ?_⟩) (by assumption) ?_
      rotate_left
      · (intro w hSw; (try dsimp only at hSw); go_simp; try with_reducible rfl)
      simp only [Act.put, List.getElem_toArray, List.getElem_cons_succ, List.getElem_cons_zero, List.setIfInBounds_toArray, List.set_cons_zero, List.set_cons_succ]
      refine wpAnyH_take (i := 45) (v := ?_) rfl (by kernel_rfl) (by kernel_rfl) (by kernel_rfl) (fun _ _ _ h => h) (Or.inl ⟨by rfl, ?_⟩) (by assumption) ?_
      rotate_left
      · (intro w hSw; (try dsimp only at hSw); go_simp; try with_reducible rfl)
      simp only [Act.put, List.getElem_toArray, List.getElem_cons_succ, List.getElem_cons_zero, List.setIfInBounds_toArray, List.set_cons_zero, List.set_cons_succ]
      refine wpAnyH_done (by kernel_rfl) ?_ _
      go_wp2
      go_ret
      exact ⟨rfl, HBZ.out⟩

theorem sums_frame (w : World) (v : Value) (l : List Bool) (hr : RowC w v (l.map Value.bool)) (hl : l.length ≤ maxLen) (a : Int) (ha : (Lit.int .u16 a).wf = true) (hT : TabAt w) :
    Calls Tryd.prog 8 #[v, .int .u16 a] w fun e w' => e = .returned (.bool true) ∧ Below w.heap.size w w' := by
  have h : 0 ≤ a ∧ a ≤ 65535 := by
    have hmin : IntKind.u16.min = 0 := rfl
    have hmax : IntKind.u16.max = 65535 := rfl
    simp only [Lit.wf, Bool.and_eq_true, decide_eq_true_eq] at ha; omega
  obtain ⟨n, rfl⟩ := Int.eq_ofNat_of_zero_le h.1
  exact sums_calls v l n (by omega) w hr hl hT
end Go.Proofs.YtkigkcncbobhaaaDoor
