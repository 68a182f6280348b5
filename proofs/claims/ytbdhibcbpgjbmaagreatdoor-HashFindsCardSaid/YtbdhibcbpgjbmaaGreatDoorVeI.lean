/- Package vec, walked: Num, Whole, Char, Packed, Nums, Wholes, Text. -/
import Derived.Test.YtbdhibcbpgjbmaaGreatDoorVeH
namespace Go.Proofs.YtbdhibcbpgjbmaaGreatDoor
open Go.RowKit
set_option linter.unusedVariables false
set_option maxRecDepth 100000

/-- The numbers of a vector; its whole numbers; its characters. -/
def VV.nums : VV → List Nat
 | .bits l => l.map flagW | .smalls l => l.map (floatOfInt .f64) | .ints l => l.map (floatOfInt .f64) | .floats l => l | _ => []
def VV.whs : VV → List Int
 | .bits l => l.map flagZ | .smalls l => l | .ints l => l | _ => []
def VV.isWh : VV → Bool
 | .bits _ => true | .smalls _ => true | .ints _ => true | _ => false
def VV.text : VV → List Int
 | .chars l => l | _ => []
def VV.packed : VV → List Bool
 | .bits l => l | _ => []
def VV.isBit : VV → Bool
 | .bits l => true | _ => false
/-- Of a size that fits, and its elements are of their types. -/
def VV.ok : VV → Prop
 | .none => True
 | .bits l => l.length ≤ 1048576
 | .smalls l => l.length ≤ 1048576 ∧ ∀ x ∈ l, -128 ≤ x ∧ x ≤ 127
 | .ints l => l.length ≤ 1048576
 | .floats l => l.length ≤ 1048576
 | .chars l => l.length ≤ 1048576
 | .boxes l => l.length ≤ 1048576 ∧ ∀ p ∈ l, p.1.length ≤ 1048576
theorem VV.ok_len {V : VV} (h : V.ok) : V.len ≤ 1048576 := by
 cases V <;> simp [VV.ok, VV.len] at * <;> first | exact h | exact h.1 | omega
/-- Element i of a list, d where there is none. -/
def atI {α : Type} (l : List α) (d : α) (i : Int) : α := if 0 ≤ i then l.getD i.toNat d else d
theorem atI_neg {α : Type} {l : List α} {d : α} {i : Int} (h : ¬ (0 ≤ i ∧ i < l.length)) : atI l d i = d := by
 unfold atI
 split
 ·rw [List.getD_eq_getElem?_getD, List.getElem?_eq_none (by omega)]; rfl
 ·rfl
theorem atI_nat {α : Type} {l : List α} {d : α} {k : Nat} (h : k < l.length) : atI l d (k : Int) = l[k] := by
 unfold atI
 rw [if_pos (by omega), Int.toNat_natCast, List.getD_eq_getElem?_getD, List.getElem?_eq_getElem h]; rfl
theorem has_yes {ok : Nat → Prop} (u : Value) (V : VV) (k : Nat) (w : World) (h : IsV w ok u V) (hk : k < V.len) : Calls Tryz.prog 89 #[.agg #[u], .int .i64 (k : Int)] w fun e w' => e = .returned (.bool true) ∧ Below w.heap.size w w' := by
 have e : (decide ((0 : Int) ≤ (k : Int)) && decide ((k : Int) < (V.len : Int))) = true := by simp; omega
 rw [← e]; exact has_calls u V k w h
theorem has_no {ok : Nat → Prop} (u : Value) (V : VV) (i : Int) (w : World) (h : IsV w ok u V) (hk : ¬ (0 ≤ i ∧ i < (V.len : Int))) : Calls Tryz.prog 89 #[.agg #[u], .int .i64 i] w fun e w' => e = .returned (.bool false) ∧ Below w.heap.size w w' := by
 have e : (decide ((0 : Int) ≤ i) && decide (i < (V.len : Int))) = false := by simp; omega
 rw [← e]; exact has_calls u V i w h
theorem ret_fi {a b : Int} {c d : Bool} (h : a = b) (h2 : c = d) : Ending.returned (.tuple #[.int .i64 a, .bool c]) = .returned (.tuple #[.int .i64 b, .bool d]) := by rw [h, h2]
theorem flagv_calls (b : Bool) (w : World) : Calls Tryz.prog 92 #[.bool b] w fun e w' => e = .returned (.float .f64 (flagW b)) ∧ w = w' := flag_calls b w
theorem atI_some {α : Type} {l : List α} {d x : α} {k : Nat} (h : l[k]? = some x) : atI l d (k : Int) = x := by
 unfold atI
 rw [if_pos (by omega), Int.toNat_natCast, List.getD_eq_getElem?_getD, h]; rfl
theorem atI_map {α β : Type} {l : List α} {d : β} {x : α} {k : Nat} (f : α → β) (h : l[k]? = some x) : atI (l.map f) d (k : Int) = f x := atI_some (by rw [List.getElem?_map, h]; rfl)
theorem Slc.at_map {α : Type} {w : World} {ok : Nat → Prop} {s : Value} {l : List α} (f : α → Value) (h : Slc w ok s l.length (l.map f)) (k : Nat) (hk : k < l.length) :
  ∃ b off cap x, s = .slice (some ⟨b, off, none⟩) l.length cap ∧ l[k]? = some x ∧ w.cell? ⟨b, off + k, none⟩ = some (f x) := by
 obtain ⟨ao, cap, rfl, _, _, _, hc⟩ := h.opened
 obtain ⟨b, off, rfl, _, hcl⟩ := hc k (by simpa using hk)
 refine ⟨b, off, cap, l[k], rfl, List.getElem?_eq_getElem hk, ?_⟩
 rw [hcl]; simp
theorem sqI_some {l : List Bool} {k : Nat} {b : Bool} (h : l[k]? = some b) : sqI l (k : Int) = b := by
 rw [sqI, if_pos (by omega), Int.toNat_natCast, sq, h]; rfl
theorem VV.nums_len {i : Int} {V : VV} (h : ¬ (0 ≤ i ∧ i < (V.len : Int))) : atI V.nums 0 i = 0 := by
 cases V <;> first | (simp [VV.nums, atI]; done) | (exact atI_neg (by simp only [VV.nums, VV.len, List.length_map] at *; exact h))
theorem VV.whs_len {i : Int} {V : VV} (h : ¬ (0 ≤ i ∧ i < (V.len : Int))) : atI V.whs 0 i = 0 := by
 cases V <;> first | (simp [VV.whs, atI]; done) | (exact atI_neg (by simp only [VV.whs, VV.len, List.length_map] at *; exact h))

set_option maxHeartbeats 2000000 in
theorem num_calls {ok : Nat → Prop} (u : Value) (V : VV) (i : Int) (w : World) (h : IsV w ok u V) : Calls Tryz.prog 59 #[.agg #[u], .int .i64 i] w fun e w' => e = .returned (.float .f64 (atI V.nums 0 i)) ∧ Below w.heap.size w w' := by
 have H := Lib.hid h
 by_cases hin : 0 ≤ i ∧ i < (V.len : Int)
 ·obtain ⟨k, rfl⟩ := Int.eq_ofNat_of_zero_le hin.1
  have hk : k < V.len := by omega
  clear hin
  cases h with
  | none => exact absurd hk (by simp [VV.len])
  | @bits s l h hm =>
   have hb := Lib.hid (IsV.isBits h)
   obtain ⟨_, ao, cap, rfl, _⟩ := h
   have t0 := ta_Bits_Bits; have t1 := ta_Bits_slI8; have t2 := ta_Bits_slI64; have t3 := ta_Bits_slF; have t4 := ta_Bits_slI32; have t5 := ta_Bits_slA
   obtain ⟨bb, hx⟩ : ∃ x, l[k]? = some x := ⟨_, List.getElem?_eq_getElem hk⟩
   have HX := Lib.hid hx; clear hx; have HK := Lib.hid hk
   go_enter Tryz.func59, Tryz.ntmps59
   go_wp2_with fail
   refine (has_yes _ _ k _ (H.out.grow (below_new _ _)) HK.out).mono ?_
   rintro e w1 ⟨rfl, hB⟩
   obtain ⟨_, a0, _⟩ := (At1.new w _ 36).below hB
   have HB := Lib.hid ((below_new w _).trans (hB.mono (by simp <;> omega)))
   clear hB
   go_wp2_with fail
   refine (at_calls _ _ _ _ (hb.out.keep (keep_below (HB.out.alloc HB.out.size _))) hm).mono ?_
   rintro e w2 ⟨rfl, hB2⟩
   rw [sqI_some HX.out]
   have HB2 := Lib.hid ((HB.out.alloc HB.out.size _).trans (hB2.mono (by simp; have := HB.out.size; omega)))
   clear hB2
   go_wp2_with fail
   refine (flagv_calls _ _).mono ?_
   rintro e w3 ⟨rfl, rfl⟩
   go_wp2
   go_ret
   exact ⟨ret_f (by simp only [VV.nums]; exact (atI_map flagW HX.out).symm), HB2.out⟩
  | @smalls s l h =>
   have t0 := ta_slI8_Bits; have t1 := ta_slI8_slI8; have t2 := ta_slI8_slI64; have t3 := ta_slI8_slF; have t4 := ta_slI8_slI32; have t5 := ta_slI8_slA
   obtain ⟨b, off, cap, x, rfl, hx, hcl0⟩ := Slc.at_map (Value.int .i8) h k hk
   have HX := Lib.hid hx; have HCL := Lib.hid hcl0; clear hx hcl0
   have hcv : ∀ w, (convert 87 31 (.int .i8 x)).run Tryz.prog w = .ok (.float .f64 (floatOfInt .f64 x)) w := fun w => run_convert_int_float w 87 31 .i8 .f64 x (by kernel_rfl) (by kernel_rfl)
   have HK := Lib.hid hk
   go_enter Tryz.func59, Tryz.ntmps59
   go_wp2_with fail
   refine (has_yes _ _ k _ (H.out.grow (below_new _ _)) HK.out).mono ?_
   rintro e w1 ⟨rfl, hB⟩
   obtain ⟨_, a0, _⟩ := (At1.new w _ 36).below hB
   have HB := Lib.hid ((below_new w _).trans (hB.mono (by simp <;> omega)))
   clear hB
   have hcl := keep_below HB.out _ _ HCL.out
   have hk' := HK.out
   simp only [VV.len] at hk'
   go_wp2
   go_ret
   exact ⟨ret_f (by simp only [VV.nums]; exact (atI_map (floatOfInt .f64) HX.out).symm), HB.out⟩
  | @ints s l h =>
   have t0 := ta_slI64_Bits; have t1 := ta_slI64_slI8; have t2 := ta_slI64_slI64; have t3 := ta_slI64_slF; have t4 := ta_slI64_slI32; have t5 := ta_slI64_slA
   obtain ⟨b, off, cap, x, rfl, hx, hcl0⟩ := Slc.at_map (Value.int .i64) h k hk
   have HX := Lib.hid hx; have HCL := Lib.hid hcl0; clear hx hcl0
   have hcv : ∀ w, (convert 2 31 (.int .i64 x)).run Tryz.prog w = .ok (.float .f64 (floatOfInt .f64 x)) w := fun w => run_convert_int_float w 2 31 .i64 .f64 x (by kernel_rfl) (by kernel_rfl)
   have HK := Lib.hid hk
   go_enter Tryz.func59, Tryz.ntmps59
   go_wp2_with fail
   refine (has_yes _ _ k _ (H.out.grow (below_new _ _)) HK.out).mono ?_
   rintro e w1 ⟨rfl, hB⟩
   obtain ⟨_, a0, _⟩ := (At1.new w _ 36).below hB
   have HB := Lib.hid ((below_new w _).trans (hB.mono (by simp <;> omega)))
   clear hB
   have hcl := keep_below HB.out _ _ HCL.out
   have hk' := HK.out
   simp only [VV.len] at hk'
   go_wp2
   go_ret
   exact ⟨ret_f (by simp only [VV.nums]; exact (atI_map (floatOfInt .f64) HX.out).symm), HB.out⟩
  | @floats s l h =>
   have t0 := ta_slF_Bits; have t1 := ta_slF_slI8; have t2 := ta_slF_slI64; have t3 := ta_slF_slF; have t4 := ta_slF_slI32; have t5 := ta_slF_slA
   obtain ⟨b, off, cap, x, rfl, hx, hcl0⟩ := Slc.at_map (Value.float .f64) h k hk
   have HX := Lib.hid hx; have HCL := Lib.hid hcl0; clear hx hcl0; have HK := Lib.hid hk
   go_enter Tryz.func59, Tryz.ntmps59
   go_wp2_with fail
   refine (has_yes _ _ k _ (H.out.grow (below_new _ _)) HK.out).mono ?_
   rintro e w1 ⟨rfl, hB⟩
   obtain ⟨_, a0, _⟩ := (At1.new w _ 36).below hB
   have HB := Lib.hid ((below_new w _).trans (hB.mono (by simp <;> omega)))
   clear hB
   have hcl := keep_below HB.out _ _ HCL.out
   have hk' := HK.out
   simp only [VV.len] at hk'
   go_wp2
   go_ret
   exact ⟨ret_f (by simp only [VV.nums]; exact (atI_some HX.out).symm), HB.out⟩
  | @chars s l h =>
   obtain ⟨ao, cap, rfl, _, _, _, hc⟩ := h.opened
   have t0 := ta_slI32_Bits; have t1 := ta_slI32_slI8; have t2 := ta_slI32_slI64; have t3 := ta_slI32_slF; have t4 := ta_slI32_slI32; have t5 := ta_slI32_slA
   have HK := Lib.hid hk
   go_enter Tryz.func59, Tryz.ntmps59
   go_wp2_with fail
   refine (has_yes _ _ k _ (H.out.grow (below_new _ _)) HK.out).mono ?_
   rintro e w1 ⟨rfl, hB⟩
   obtain ⟨_, a0, _⟩ := (At1.new w _ 36).below hB
   have HB := Lib.hid ((below_new w _).trans (hB.mono (by simp <;> omega)))
   clear hB
   go_wp2
   go_ret
   exact ⟨ret_f (by simp [VV.nums, atI]), HB.out⟩
  | @boxes ao cap l f g h1 h2 hc hs hv =>
   have t0 := ta_slA_Bits; have t1 := ta_slA_slI8; have t2 := ta_slA_slI64; have t3 := ta_slA_slF; have t4 := ta_slA_slI32; have t5 := ta_slA_slA
   have HK := Lib.hid hk
   go_enter Tryz.func59, Tryz.ntmps59
   go_wp2_with fail
   refine (has_yes _ _ k _ (H.out.grow (below_new _ _)) HK.out).mono ?_
   rintro e w1 ⟨rfl, hB⟩
   obtain ⟨_, a0, _⟩ := (At1.new w _ 36).below hB
   have HB := Lib.hid ((below_new w _).trans (hB.mono (by simp <;> omega)))
   clear hB
   go_wp2
   go_ret
   exact ⟨ret_f (by simp [VV.nums, atI]), HB.out⟩
 ·have HN := Lib.hid hin; clear h hin
  go_enter Tryz.func59, Tryz.ntmps59
  go_wp2_with fail
  refine (has_no _ _ i _ (H.out.grow (below_new _ _)) HN.out).mono ?_
  rintro e w1 ⟨rfl, hB⟩
  have HB := Lib.hid ((below_new w (.cells #[u] 36)).trans (hB.mono (by simp <;> omega)))
  clear hB
  go_wp2
  go_ret
  exact ⟨ret_f (VV.nums_len HN.out).symm, HB.out⟩

end Go.Proofs.YtbdhibcbpgjbmaaGreatDoor
