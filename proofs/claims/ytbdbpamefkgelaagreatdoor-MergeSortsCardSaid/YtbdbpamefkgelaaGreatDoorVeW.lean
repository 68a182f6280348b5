/- Package vec: what Text and Wholes tell is the caller's own; append of what came in to a new slice. -/
import Derived.Test.YtbdbpamefkgelaaGreatDoorVeQ
import Derived.Test.YtbdbpamefkgelaaGreatDoorAp
namespace Go.Proofs.YtbdbpamefkgelaaGreatDoor
open Go.RowKit
set_option linter.unusedVariables false
set_option maxRecDepth 100000

set_option maxHeartbeats 1000000 in
theorem CloneI64_own {ok : Nat → Prop} (v : Value) (l : List Int) (w : World) (hv : Slc w ok v l.length (ints l)) (hm0 : l.length ≤ 2000000) :
    Calls Tryz.prog 139 #[v] w fun e w' => ∃ v, e = .returned v ∧ w'.ownsRow w.heap.size 2 1 v l.length (ints l) ∧ Below w.heap.size w w' := by
  obtain ⟨i0, hi, hz0, hz1, hz2⟩ := info_parts info_i64
  obtain ⟨ao, cap, rfl, h1, h2, _, hcells⟩ := hv.opened
  have hm : l.length ≤ maxLen := by unfold maxLen; omega
  clear hv h1 h2
  have qT : ∀ (w : World) (a : Option Addr) (n c n' c' : Nat), (binOp .eql 84 (.slice a n c) (.slice none n' c')).run Tryz.prog w = .ok (.bool a.isNone) w := fun w a n c n' c' => Lib.run_eql_slice_nil w _ _ a n c n' c' Tryz.underlying84
  cases ao with
  | none =>
    have h0 : l = [] := by
      cases l with
      | nil => rfl
      | cons z zs => obtain ⟨b, off, e, _⟩ := hcells 0 (by simp [ints]); cases e
    subst h0
    go_enter Tryz.func139, Tryz.ntmps139
    go_wp2
    go_ret
    exact ⟨_, rfl, World.ownsRow_nil _ _ _ _, Below.refl _ _⟩
  | some ad =>
    have hc : ∀ j u, (ints l)[j]? = some u → w.cell? (ad.add j) = some u := by
      intro j u hj
      obtain ⟨hj', e⟩ := List.getElem?_eq_some_iff.1 hj
      obtain ⟨b, off, e2, _, hcell⟩ := hcells j hj'
      obtain rfl := Option.some.inj e2
      rw [← e, Go.WideShapes.add_plain]; exact hcell
    have HC := Lib.hid hc
    have hone : Hid (∀ u ∈ ints l, u.oneCell' = true) := Lib.hid (by
      intro u hu
      simp only [ints, List.mem_map] at hu
      obtain ⟨z, _, rfl⟩ := hu
      rfl)
    have hown := World.ownsRow_lit (base := w.heap.size) (e := 2) (size := 1) w #[] 0 (Nat.le_refl _) (by unfold maxLen; omega) rfl
    have HO := Lib.hid hown
    have HL := Lib.hid (show (ints l).length = l.length * 1 by rw [ints_len, Nat.mul_one])
    clear hc hown hcells
    go_enter Tryz.func139, Tryz.ntmps139
    go_wp2_with (at_builtin; refine wpList_append_own _ rfl _ _ 84 rfl w.heap.size 2 i0 (.int .i64 0) 1 8 Tryz.underlying84 hi hz0 hz1 hz2 rfl (by decide) _ _ _ rfl HO.out ad l.length cap (ints l) rfl HL.out ?c1 hone.out ?c3 ?c4 ?c5 ?_)
    case c1 => exact fun j u hj => keep_alloc _ _ _ _ (HC.out j u hj)
    case c4 => omega
    intro v' w1 hown' hgrow _
    have HO1 := Lib.hid hown'
    have HB1 := Lib.hid (grown_below ((Below.refl w.heap.size w).alloc (Nat.le_refl _) _) HO.out (Nat.le_refl _) (by simp) hgrow)
    clear hown' hgrow
    go_wp2
    go_ret
    exact ⟨_, rfl, by have := HO1.out; simpa using this, HB1.out⟩

set_option maxHeartbeats 1000000 in
theorem CloneI32_own {ok : Nat → Prop} (v : Value) (l : List Int) (w : World) (hv : Slc w ok v l.length (i32s l)) (hm0 : l.length ≤ 2000000) :
    Calls Tryz.prog 77 #[v] w fun e w' => ∃ v, e = .returned v ∧ w'.ownsRow w.heap.size 21 1 v l.length (i32s l) ∧ Below w.heap.size w w' := by
  obtain ⟨i0, hi, hz0, hz1, hz2⟩ := info_parts info_i32
  obtain ⟨ao, cap, rfl, h1, h2, _, hcells⟩ := hv.opened
  have hm : l.length ≤ maxLen := by unfold maxLen; omega
  clear hv h1 h2
  have qT : ∀ (w : World) (a : Option Addr) (n c n' c' : Nat), (binOp .eql 74 (.slice a n c) (.slice none n' c')).run Tryz.prog w = .ok (.bool a.isNone) w := fun w a n c n' c' => Lib.run_eql_slice_nil w _ _ a n c n' c' Tryz.underlying74
  cases ao with
  | none =>
    have h0 : l = [] := by
      cases l with
      | nil => rfl
      | cons z zs => obtain ⟨b, off, e, _⟩ := hcells 0 (by simp [i32s]); cases e
    subst h0
    go_enter Tryz.func77, Tryz.ntmps77
    go_wp2
    go_ret
    exact ⟨_, rfl, World.ownsRow_nil _ _ _ _, Below.refl _ _⟩
  | some ad =>
    have hc : ∀ j u, (i32s l)[j]? = some u → w.cell? (ad.add j) = some u := by
      intro j u hj
      obtain ⟨hj', e⟩ := List.getElem?_eq_some_iff.1 hj
      obtain ⟨b, off, e2, _, hcell⟩ := hcells j hj'
      obtain rfl := Option.some.inj e2
      rw [← e, Go.WideShapes.add_plain]; exact hcell
    have HC := Lib.hid hc
    have hone : Hid (∀ u ∈ i32s l, u.oneCell' = true) := Lib.hid (by
      intro u hu
      simp only [i32s, List.mem_map] at hu
      obtain ⟨z, _, rfl⟩ := hu
      rfl)
    have hown := World.ownsRow_lit (base := w.heap.size) (e := 21) (size := 1) w #[] 0 (Nat.le_refl _) (by unfold maxLen; omega) rfl
    have HO := Lib.hid hown
    have HL := Lib.hid (show (i32s l).length = l.length * 1 by rw [i32s_len, Nat.mul_one])
    clear hc hown hcells
    go_enter Tryz.func77, Tryz.ntmps77
    go_wp2_with (at_builtin; refine wpList_append_own _ rfl _ _ 74 rfl w.heap.size 21 i0 (.int .i32 0) 1 4 Tryz.underlying74 hi hz0 hz1 hz2 rfl (by decide) _ _ _ rfl HO.out ad l.length cap (i32s l) rfl HL.out ?c1 hone.out ?c3 ?c4 ?c5 ?_)
    case c1 => exact fun j u hj => keep_alloc _ _ _ _ (HC.out j u hj)
    case c4 => omega
    intro v' w1 hown' hgrow _
    have HO1 := Lib.hid hown'
    have HB1 := Lib.hid (grown_below ((Below.refl w.heap.size w).alloc (Nat.le_refl _) _) HO.out (Nat.le_refl _) (by simp) hgrow)
    clear hown' hgrow
    go_wp2
    go_ret
    exact ⟨_, rfl, by have := HO1.out; simpa using this, HB1.out⟩

set_option maxHeartbeats 2000000 in
theorem vtext_own {ok : Nat → Prop} (u : Value) (l : List Int) (w : World) (h : IsV w ok u (.chars l)) (hm : l.length ≤ 2000000) : Calls Tryz.prog 97 #[.agg #[u]] w fun e w' => ∃ v, e = .returned v ∧ w'.ownsRow (w.heap.size + 1) 21 1 v l.length (i32s l) ∧ Below w.heap.size w w' := by
  cases h with
  | @chars s l h =>
    have HS := Lib.hid h
    obtain ⟨ao, cap, rfl, _, _, _, hc⟩ := h.opened
    clear h hc
    have t0 := ta_slI32_Bits; have t1 := ta_slI32_slI8; have t2 := ta_slI32_slI64; have t3 := ta_slI32_slF; have t4 := ta_slI32_slI32; have t5 := ta_slI32_slA
    go_enter Tryz.func97, Tryz.ntmps97
    go_wp2_with fail
    refine (CloneI32_own _ _ _ (HS.out.below (below_new _ _)) hm).mono ?_
    rintro e w1 ⟨v1, rfl, hs, hB⟩
    simp only [World.size_alloc] at hs
    have HS1 := Lib.hid hs
    have HB := Lib.hid ((below_new w _).trans (hB.mono (by simp <;> omega)))
    clear hs hB
    go_wp2
    go_ret
    exact ⟨v1, rfl, HS1.out, HB.out⟩

set_option maxHeartbeats 2000000 in
theorem vwholes_own {ok : Nat → Prop} (u : Value) (l : List Int) (w : World) (h : IsV w ok u (.ints l)) (hm : l.length ≤ 2000000) : Calls Tryz.prog 99 #[.agg #[u]] w fun e w' => ∃ v, e = .returned (.tuple #[v, .bool true]) ∧ w'.ownsRow (w.heap.size + 1) 2 1 v l.length (ints l) ∧ Below w.heap.size w w' := by
  cases h with
  | @ints s l h =>
    have HS := Lib.hid h
    obtain ⟨ao, cap, rfl, _, _, _, hc⟩ := h.opened
    clear h hc
    have t0 := ta_slI64_Bits; have t1 := ta_slI64_slI8; have t2 := ta_slI64_slI64; have t3 := ta_slI64_slF; have t4 := ta_slI64_slI32; have t5 := ta_slI64_slA
    go_enter Tryz.func99, Tryz.ntmps99
    go_wp2_with fail
    refine (CloneI64_own _ _ _ (HS.out.below (below_new _ _)) hm).mono ?_
    rintro e w1 ⟨v1, rfl, hs, hB⟩
    simp only [World.size_alloc] at hs
    have HS1 := Lib.hid hs
    have HB := Lib.hid ((below_new w _).trans (hB.mono (by simp <;> omega)))
    clear hs hB
    go_wp2
    go_ret2
    exact ⟨v1, rfl, HS1.out, HB.out⟩

end Go.Proofs.YtbdbpamefkgelaaGreatDoor
