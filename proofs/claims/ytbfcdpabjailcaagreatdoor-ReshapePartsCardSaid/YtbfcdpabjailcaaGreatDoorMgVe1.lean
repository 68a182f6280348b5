/- Merged: VeA, VeB, VeC, VeD, VeE, VeF, VeG, VeH, VeI, VeJ, VeK, VeL, VeM, VeN, VeO, VeP, VeQ, VeS, VeW, VeX. -/
import Derived.Deep.RegionLaw
import Derived.Test.YtbfcdpabjailcaaGreatDoorMgBv1
import Derived.Test.YtbfcdpabjailcaaGreatDoorMgNu1
/- Package vec: what a vector is in memory; facts of its types. -/
namespace Go.Proofs.YtbfcdpabjailcaaGreatDoor
set_option maxRecDepth 100000
open Go.RowKit
set_option linter.unusedVariables false

theorem info_i8 : (Tryz.prog.info? 118).map (fun i => (i.zero, i.size, i.bytes)) = some (some (.int .i8 0), 1, 1) := by kernel_rfl
theorem info_i64 : (Tryz.prog.info? 2).map (fun i => (i.zero, i.size, i.bytes)) = some (some (.int .i64 0), 1, 8) := by kernel_rfl
theorem info_i32 : (Tryz.prog.info? 21).map (fun i => (i.zero, i.size, i.bytes)) = some (some (.int .i32 0), 1, 4) := by kernel_rfl
theorem info_f64 : (Tryz.prog.info? 38).map (fun i => (i.zero, i.size, i.bytes)) = some (some (.float .f64 0), 1, 8) := by kernel_rfl
theorem info_arr : (Tryz.prog.info? 31).map (fun i => (i.zero, i.size, i.bytes)) = some (some (.agg #[.slice none 0 0, .nilIface]), 2, 40) := by kernel_rfl
theorem ta_nil_Bits (w : World) : (Instr.typeAssert .nilIface 20 78 true).run Tryz.prog w = .ok (.tuple #[.agg #[.int .i64 0, .slice none 0 0], .bool false]) w := by kernel_rfl
theorem ta_Bits_Bits (v : Value) (w : World) : (Instr.typeAssert (.iface 78 v) 20 78 true).run Tryz.prog w = .ok (.tuple #[v, .bool true]) w := by kernel_rfl
theorem ta_Bits_slI8 (v : Value) (w : World) : (Instr.typeAssert (.iface 78 v) 20 79 true).run Tryz.prog w = .ok (.tuple #[.slice none 0 0, .bool false]) w := by kernel_rfl
theorem ta_Bits_slI64 (v : Value) (w : World) : (Instr.typeAssert (.iface 78 v) 20 66 true).run Tryz.prog w = .ok (.tuple #[.slice none 0 0, .bool false]) w := by kernel_rfl
theorem ta_Bits_slF (v : Value) (w : World) : (Instr.typeAssert (.iface 78 v) 20 44 true).run Tryz.prog w = .ok (.tuple #[.slice none 0 0, .bool false]) w := by kernel_rfl
theorem ta_Bits_slI32 (v : Value) (w : World) : (Instr.typeAssert (.iface 78 v) 20 80 true).run Tryz.prog w = .ok (.tuple #[.slice none 0 0, .bool false]) w := by kernel_rfl
theorem ta_Bits_slA (v : Value) (w : World) : (Instr.typeAssert (.iface 78 v) 20 81 true).run Tryz.prog w = .ok (.tuple #[.slice none 0 0, .bool false]) w := by kernel_rfl
theorem ta_nil_slI8 (w : World) : (Instr.typeAssert .nilIface 20 79 true).run Tryz.prog w = .ok (.tuple #[.slice none 0 0, .bool false]) w := by kernel_rfl
theorem ta_slI8_Bits (v : Value) (w : World) : (Instr.typeAssert (.iface 79 v) 20 78 true).run Tryz.prog w = .ok (.tuple #[.agg #[.int .i64 0, .slice none 0 0], .bool false]) w := by kernel_rfl
theorem ta_slI8_slI8 (v : Value) (w : World) : (Instr.typeAssert (.iface 79 v) 20 79 true).run Tryz.prog w = .ok (.tuple #[v, .bool true]) w := by kernel_rfl
theorem ta_slI8_slI64 (v : Value) (w : World) : (Instr.typeAssert (.iface 79 v) 20 66 true).run Tryz.prog w = .ok (.tuple #[.slice none 0 0, .bool false]) w := by kernel_rfl
theorem ta_slI8_slF (v : Value) (w : World) : (Instr.typeAssert (.iface 79 v) 20 44 true).run Tryz.prog w = .ok (.tuple #[.slice none 0 0, .bool false]) w := by kernel_rfl
theorem ta_slI8_slI32 (v : Value) (w : World) : (Instr.typeAssert (.iface 79 v) 20 80 true).run Tryz.prog w = .ok (.tuple #[.slice none 0 0, .bool false]) w := by kernel_rfl
theorem ta_slI8_slA (v : Value) (w : World) : (Instr.typeAssert (.iface 79 v) 20 81 true).run Tryz.prog w = .ok (.tuple #[.slice none 0 0, .bool false]) w := by kernel_rfl
theorem ta_nil_slI64 (w : World) : (Instr.typeAssert .nilIface 20 66 true).run Tryz.prog w = .ok (.tuple #[.slice none 0 0, .bool false]) w := by kernel_rfl
theorem ta_slI64_Bits (v : Value) (w : World) : (Instr.typeAssert (.iface 66 v) 20 78 true).run Tryz.prog w = .ok (.tuple #[.agg #[.int .i64 0, .slice none 0 0], .bool false]) w := by kernel_rfl
theorem ta_slI64_slI8 (v : Value) (w : World) : (Instr.typeAssert (.iface 66 v) 20 79 true).run Tryz.prog w = .ok (.tuple #[.slice none 0 0, .bool false]) w := by kernel_rfl
theorem ta_slI64_slI64 (v : Value) (w : World) : (Instr.typeAssert (.iface 66 v) 20 66 true).run Tryz.prog w = .ok (.tuple #[v, .bool true]) w := by kernel_rfl
theorem ta_slI64_slF (v : Value) (w : World) : (Instr.typeAssert (.iface 66 v) 20 44 true).run Tryz.prog w = .ok (.tuple #[.slice none 0 0, .bool false]) w := by kernel_rfl
theorem ta_slI64_slI32 (v : Value) (w : World) : (Instr.typeAssert (.iface 66 v) 20 80 true).run Tryz.prog w = .ok (.tuple #[.slice none 0 0, .bool false]) w := by kernel_rfl
theorem ta_slI64_slA (v : Value) (w : World) : (Instr.typeAssert (.iface 66 v) 20 81 true).run Tryz.prog w = .ok (.tuple #[.slice none 0 0, .bool false]) w := by kernel_rfl
theorem ta_nil_slF (w : World) : (Instr.typeAssert .nilIface 20 44 true).run Tryz.prog w = .ok (.tuple #[.slice none 0 0, .bool false]) w := by kernel_rfl
theorem ta_slF_Bits (v : Value) (w : World) : (Instr.typeAssert (.iface 44 v) 20 78 true).run Tryz.prog w = .ok (.tuple #[.agg #[.int .i64 0, .slice none 0 0], .bool false]) w := by kernel_rfl
theorem ta_slF_slI8 (v : Value) (w : World) : (Instr.typeAssert (.iface 44 v) 20 79 true).run Tryz.prog w = .ok (.tuple #[.slice none 0 0, .bool false]) w := by kernel_rfl
theorem ta_slF_slI64 (v : Value) (w : World) : (Instr.typeAssert (.iface 44 v) 20 66 true).run Tryz.prog w = .ok (.tuple #[.slice none 0 0, .bool false]) w := by kernel_rfl
theorem ta_slF_slF (v : Value) (w : World) : (Instr.typeAssert (.iface 44 v) 20 44 true).run Tryz.prog w = .ok (.tuple #[v, .bool true]) w := by kernel_rfl
theorem ta_slF_slI32 (v : Value) (w : World) : (Instr.typeAssert (.iface 44 v) 20 80 true).run Tryz.prog w = .ok (.tuple #[.slice none 0 0, .bool false]) w := by kernel_rfl
theorem ta_slF_slA (v : Value) (w : World) : (Instr.typeAssert (.iface 44 v) 20 81 true).run Tryz.prog w = .ok (.tuple #[.slice none 0 0, .bool false]) w := by kernel_rfl
theorem ta_nil_slI32 (w : World) : (Instr.typeAssert .nilIface 20 80 true).run Tryz.prog w = .ok (.tuple #[.slice none 0 0, .bool false]) w := by kernel_rfl
theorem ta_slI32_Bits (v : Value) (w : World) : (Instr.typeAssert (.iface 80 v) 20 78 true).run Tryz.prog w = .ok (.tuple #[.agg #[.int .i64 0, .slice none 0 0], .bool false]) w := by kernel_rfl
theorem ta_slI32_slI8 (v : Value) (w : World) : (Instr.typeAssert (.iface 80 v) 20 79 true).run Tryz.prog w = .ok (.tuple #[.slice none 0 0, .bool false]) w := by kernel_rfl
theorem ta_slI32_slI64 (v : Value) (w : World) : (Instr.typeAssert (.iface 80 v) 20 66 true).run Tryz.prog w = .ok (.tuple #[.slice none 0 0, .bool false]) w := by kernel_rfl
theorem ta_slI32_slF (v : Value) (w : World) : (Instr.typeAssert (.iface 80 v) 20 44 true).run Tryz.prog w = .ok (.tuple #[.slice none 0 0, .bool false]) w := by kernel_rfl
theorem ta_slI32_slI32 (v : Value) (w : World) : (Instr.typeAssert (.iface 80 v) 20 80 true).run Tryz.prog w = .ok (.tuple #[v, .bool true]) w := by kernel_rfl
theorem ta_slI32_slA (v : Value) (w : World) : (Instr.typeAssert (.iface 80 v) 20 81 true).run Tryz.prog w = .ok (.tuple #[.slice none 0 0, .bool false]) w := by kernel_rfl
theorem ta_nil_slA (w : World) : (Instr.typeAssert .nilIface 20 81 true).run Tryz.prog w = .ok (.tuple #[.slice none 0 0, .bool false]) w := by kernel_rfl
theorem ta_slA_Bits (v : Value) (w : World) : (Instr.typeAssert (.iface 81 v) 20 78 true).run Tryz.prog w = .ok (.tuple #[.agg #[.int .i64 0, .slice none 0 0], .bool false]) w := by kernel_rfl
theorem ta_slA_slI8 (v : Value) (w : World) : (Instr.typeAssert (.iface 81 v) 20 79 true).run Tryz.prog w = .ok (.tuple #[.slice none 0 0, .bool false]) w := by kernel_rfl
theorem ta_slA_slI64 (v : Value) (w : World) : (Instr.typeAssert (.iface 81 v) 20 66 true).run Tryz.prog w = .ok (.tuple #[.slice none 0 0, .bool false]) w := by kernel_rfl
theorem ta_slA_slF (v : Value) (w : World) : (Instr.typeAssert (.iface 81 v) 20 44 true).run Tryz.prog w = .ok (.tuple #[.slice none 0 0, .bool false]) w := by kernel_rfl
theorem ta_slA_slI32 (v : Value) (w : World) : (Instr.typeAssert (.iface 81 v) 20 80 true).run Tryz.prog w = .ok (.tuple #[.slice none 0 0, .bool false]) w := by kernel_rfl
theorem ta_slA_slA (v : Value) (w : World) : (Instr.typeAssert (.iface 81 v) 20 81 true).run Tryz.prog w = .ok (.tuple #[v, .bool true]) w := by kernel_rfl

/-- What a vector holds. -/
inductive VV where
  | none
  | bits (l : List Bool)
  | smalls (l : List Int)
  | ints (l : List Int)
  | floats (l : List Nat)
  | chars (l : List Int)
  | boxes (l : List (List Int × VV))
def VV.kind : VV → Int
  | .none => 0 | .bits _ => 1 | .smalls _ => 2 | .ints _ => 3 | .floats _ => 4 | .chars _ => 5 | .boxes _ => 6
def VV.cls : VV → Int
  | .chars _ => 1 | .boxes _ => 2 | _ => 0
def VV.len : VV → Nat
  | .none => 0 | .bits l => l.length | .smalls l => l.length | .ints l => l.length | .floats l => l.length | .chars l => l.length | .boxes l => l.length

def i8s (l : List Int) : List Value := l.map (Value.int .i8)
def i32s (l : List Int) : List Value := l.map (Value.int .i32)
def f64s (l : List Nat) : List Value := l.map (Value.float .f64)
theorem i8s_len (l : List Int) : (i8s l).length = l.length := by simp [i8s]
theorem i32s_len (l : List Int) : (i32s l).length = l.length := by simp [i32s]
theorem f64s_len (l : List Nat) : (f64s l).length = l.length := by simp [f64s]
theorem i8s_get (l : List Int) (i : Nat) (h : i < (i8s l).length) : (i8s l)[i] = .int .i8 (l[i]'(by simpa [i8s] using h)) := by simp [i8s]
theorem f64s_get (l : List Nat) (i : Nat) (h : i < (f64s l).length) : (f64s l)[i] = .float .f64 (l[i]'(by simpa [f64s] using h)) := by simp [f64s]

/-- u is what a vector keeps: V. -/
inductive IsV (w : World) (ok : Nat → Prop) : Value → VV → Prop
  | none : IsV w ok .nilIface .none
  | bits {s : Value} {l : List Bool} (h : Slx w ok s ((l.length + 63) / 64) (u64s (words l))) (hm : l.length ≤ 1048576) : IsV w ok (.iface 78 (.agg #[.int .i64 (l.length : Int), s])) (.bits l)
  | smalls {s : Value} {l : List Int} (h : Slc w ok s l.length (i8s l)) : IsV w ok (.iface 79 s) (.smalls l)
  | ints {s : Value} {l : List Int} (h : Slc w ok s l.length (ints l)) : IsV w ok (.iface 66 s) (.ints l)
  | floats {s : Value} {l : List Nat} (h : Slc w ok s l.length (f64s l)) : IsV w ok (.iface 44 s) (.floats l)
  | chars {s : Value} {l : List Int} (h : Slc w ok s l.length (i32s l)) : IsV w ok (.iface 80 s) (.chars l)
  | boxes {ao : Option Addr} {cap : Nat} {l : List (List Int × VV)} (f g : Nat → Value) (h1 : l.length ≤ cap) (h2 : cap ≤ maxLen)
      (hc : ∀ i, i < l.length → ∃ b off, ao = some ⟨b, off, Option.none⟩ ∧ ok b ∧ w.cell? ⟨b, off + i * 2, Option.none⟩ = some (f i) ∧ w.cell? ⟨b, off + i * 2 + 1, Option.none⟩ = some (g i))
      (hs : ∀ i (h : i < l.length), Slc w ok (f i) (l[i]).1.length (_root_.Go.Proofs.YtbfcdpabjailcaaGreatDoor.ints (l[i]).1))
      (hv : ∀ i (h : i < l.length), IsV w ok (g i) (l[i]).2) : IsV w ok (.iface 81 (.slice ao l.length cap)) (.boxes l)
theorem IsV.keep {w w' : World} {ok ok' : Nat → Prop} {u : Value} {V : VV} (hk : Kept ok w w') (hm : ∀ b, b < w.heap.size → ok b → ok' b) (h : IsV w ok u V) : IsV w' ok' u V := by
  induction h with
  | none => exact .none
  | bits h hl => exact .bits (h.keep hk hm) hl
  | smalls h => exact .smalls (h.keep hk hm)
  | ints h => exact .ints (h.keep hk hm)
  | floats h => exact .floats (h.keep hk hm)
  | chars h => exact .chars (h.keep hk hm)
  | boxes f g h1 h2 hc hs hv ih =>
    refine .boxes f g h1 h2 (fun i hi => ?_) (fun i hi => (hs i hi).keep hk hm) (fun i hi => ih i hi)
    obtain ⟨b, off, e, hb, c1, c2⟩ := hc i hi
    exact ⟨b, off, e, hm b (World.block_lt_of_cell? w _ c1) hb, hk _ _ hb c1, hk _ _ hb c2⟩
theorem IsV.grow {w w' : World} {ok : Nat → Prop} {u : Value} {V : VV} (h : IsV w ok u V) (hb : Below w.heap.size w w') : IsV w' ok u V := h.keep (Kept.below hb) (fun _ _ h => h)
theorem IsV.wide {w : World} {ok ok' : Nat → Prop} {u : Value} {V : VV} (h : IsV w ok u V) (hm : ∀ b, b < w.heap.size → ok b → ok' b) : IsV w ok' u V := h.keep (Kept.refl _ _) hm
theorem IsV.any {w : World} {ok : Nat → Prop} {u : Value} {V : VV} (h : IsV w ok u V) : IsV w (fun _ => True) u V := h.wide (fun _ _ _ => trivial)
theorem IsV.lt {w : World} {ok : Nat → Prop} {u : Value} {V : VV} (h : IsV w ok u V) : IsV w (fun b => ok b ∧ b < w.heap.size) u V := h.wide (fun _ hb ho => ⟨ho, hb⟩)
theorem IsV.isBits {w : World} {ok : Nat → Prop} {v : Value} {l : List Bool} (h : Slx w ok v ((l.length + 63) / 64) (u64s (words l))) : IsBits w (.agg #[.int .i64 (l.length : Int), v]) l := ⟨_, rfl, h.sl⟩
theorem IsV.go {w w' : World} {ok : Nat → Prop} {u : Value} {V : VV} (h : IsV w ok u V) (hB : Below w.heap.size w w') : Hid (IsV w' ok u V) := Lib.hid (h.grow hB)
end Go.Proofs.YtbfcdpabjailcaaGreatDoor

/- Package vec, walked: Kind, Class, Len, has. -/
namespace Go.Proofs.YtbfcdpabjailcaaGreatDoor
open Go.RowKit
set_option linter.unusedVariables false
set_option maxRecDepth 100000
theorem kind_calls {ok : Nat → Prop} (u : Value) (V : VV) (w : World) (h : IsV w ok u V) : Calls Tryz.prog 23 #[.agg #[u]] w fun e w' => e = .returned (.int .i64 V.kind) ∧ Below w.heap.size w w' := by
  cases h with
  | none =>
    have t0 := ta_nil_Bits; have t1 := ta_nil_slI8; have t2 := ta_nil_slI64; have t3 := ta_nil_slF; have t4 := ta_nil_slI32; have t5 := ta_nil_slA
    go_enter Tryz.func23, Tryz.ntmps23
    go_wp2
    go_ret
    exact ⟨rfl, (Below.refl _ _).alloc (Nat.le_refl _) _⟩
  | bits h hm =>
    have t0 := ta_Bits_Bits; have t1 := ta_Bits_slI8; have t2 := ta_Bits_slI64; have t3 := ta_Bits_slF; have t4 := ta_Bits_slI32; have t5 := ta_Bits_slA
    go_enter Tryz.func23, Tryz.ntmps23
    go_wp2
    go_ret
    exact ⟨rfl, (Below.refl _ _).alloc (Nat.le_refl _) _⟩
  | smalls h =>
    have t0 := ta_slI8_Bits; have t1 := ta_slI8_slI8; have t2 := ta_slI8_slI64; have t3 := ta_slI8_slF; have t4 := ta_slI8_slI32; have t5 := ta_slI8_slA
    go_enter Tryz.func23, Tryz.ntmps23
    go_wp2
    go_ret
    exact ⟨rfl, (Below.refl _ _).alloc (Nat.le_refl _) _⟩
  | ints h =>
    have t0 := ta_slI64_Bits; have t1 := ta_slI64_slI8; have t2 := ta_slI64_slI64; have t3 := ta_slI64_slF; have t4 := ta_slI64_slI32; have t5 := ta_slI64_slA
    go_enter Tryz.func23, Tryz.ntmps23
    go_wp2
    go_ret
    exact ⟨rfl, (Below.refl _ _).alloc (Nat.le_refl _) _⟩
  | floats h =>
    have t0 := ta_slF_Bits; have t1 := ta_slF_slI8; have t2 := ta_slF_slI64; have t3 := ta_slF_slF; have t4 := ta_slF_slI32; have t5 := ta_slF_slA
    go_enter Tryz.func23, Tryz.ntmps23
    go_wp2
    go_ret
    exact ⟨rfl, (Below.refl _ _).alloc (Nat.le_refl _) _⟩
  | chars h =>
    have t0 := ta_slI32_Bits; have t1 := ta_slI32_slI8; have t2 := ta_slI32_slI64; have t3 := ta_slI32_slF; have t4 := ta_slI32_slI32; have t5 := ta_slI32_slA
    go_enter Tryz.func23, Tryz.ntmps23
    go_wp2
    go_ret
    exact ⟨rfl, (Below.refl _ _).alloc (Nat.le_refl _) _⟩
  | boxes f g h1 h2 hc hs hv =>
    have t0 := ta_slA_Bits; have t1 := ta_slA_slI8; have t2 := ta_slA_slI64; have t3 := ta_slA_slF; have t4 := ta_slA_slI32; have t5 := ta_slA_slA
    go_enter Tryz.func23, Tryz.ntmps23
    go_wp2
    go_ret
    exact ⟨rfl, (Below.refl _ _).alloc (Nat.le_refl _) _⟩
theorem class_calls {ok : Nat → Prop} (u : Value) (V : VV) (w : World) (h : IsV w ok u V) : Calls Tryz.prog 48 #[.agg #[u]] w fun e w' => e = .returned (.int .i64 V.cls) ∧ Below w.heap.size w w' := by
  have H := Lib.hid h
  cases V
  all_goals
    clear h
    go_enter Tryz.func48, Tryz.ntmps48
    go_wp2_with fail
    refine (kind_calls _ _ _ (H.out.grow ((Below.refl _ _).alloc (Nat.le_refl _) _))).mono ?_
    rintro e w1 ⟨rfl, hB⟩
    have HB := Lib.hid (((Below.refl w.heap.size w).alloc (Nat.le_refl _) (.cells #[u] 29)).trans (hB.mono (by simp <;> omega)))
    clear hB
    simp only [VV.kind]
    go_wp2
    go_ret
    exact ⟨rfl, HB.out⟩
theorem vlen_calls {ok : Nat → Prop} (u : Value) (V : VV) (w : World) (h : IsV w ok u V) : Calls Tryz.prog 45 #[.agg #[u]] w fun e w' => e = .returned (.int .i64 (V.len : Int)) ∧ Below w.heap.size w w' := by
  cases h with
  | none =>
    have t0 := ta_nil_Bits; have t1 := ta_nil_slI8; have t2 := ta_nil_slI64; have t3 := ta_nil_slF; have t4 := ta_nil_slI32; have t5 := ta_nil_slA
    go_enter Tryz.func45, Tryz.ntmps45
    go_wp2
    go_ret
    exact ⟨rfl, (Below.refl _ _).alloc (Nat.le_refl _) _⟩
  | bits h hm =>
    have t0 := ta_Bits_Bits; have t1 := ta_Bits_slI8; have t2 := ta_Bits_slI64; have t3 := ta_Bits_slF; have t4 := ta_Bits_slI32; have t5 := ta_Bits_slA
    have H := Lib.hid (IsV.isBits h)
    obtain ⟨_, ao, cap, rfl, _⟩ := h
    go_enter Tryz.func45, Tryz.ntmps45
    go_wp2_with fail
    refine (len_calls _ _ _ (H.out.keep (keep_below (((Below.refl _ _).alloc (Nat.le_refl _) _).alloc (by simp) _)))).mono ?_
    rintro e w1 ⟨rfl, hB⟩
    have HB := Lib.hid ((((Below.refl w.heap.size w).alloc (Nat.le_refl _) _).alloc (by simp) _).trans (hB.mono (by simp <;> omega)))
    clear hB
    go_wp2
    go_ret
    exact ⟨rfl, HB.out⟩
  | smalls h =>
    have t0 := ta_slI8_Bits; have t1 := ta_slI8_slI8; have t2 := ta_slI8_slI64; have t3 := ta_slI8_slF; have t4 := ta_slI8_slI32; have t5 := ta_slI8_slA
    obtain ⟨ao, cap, rfl, _⟩ := h.opened
    clear h
    go_enter Tryz.func45, Tryz.ntmps45
    go_wp2
    go_ret
    exact ⟨rfl, (Below.refl _ _).alloc (Nat.le_refl _) _⟩
  | ints h =>
    have t0 := ta_slI64_Bits; have t1 := ta_slI64_slI8; have t2 := ta_slI64_slI64; have t3 := ta_slI64_slF; have t4 := ta_slI64_slI32; have t5 := ta_slI64_slA
    obtain ⟨ao, cap, rfl, _⟩ := h.opened
    clear h
    go_enter Tryz.func45, Tryz.ntmps45
    go_wp2
    go_ret
    exact ⟨rfl, (Below.refl _ _).alloc (Nat.le_refl _) _⟩
  | floats h =>
    have t0 := ta_slF_Bits; have t1 := ta_slF_slI8; have t2 := ta_slF_slI64; have t3 := ta_slF_slF; have t4 := ta_slF_slI32; have t5 := ta_slF_slA
    obtain ⟨ao, cap, rfl, _⟩ := h.opened
    clear h
    go_enter Tryz.func45, Tryz.ntmps45
    go_wp2
    go_ret
    exact ⟨rfl, (Below.refl _ _).alloc (Nat.le_refl _) _⟩
  | chars h =>
    have t0 := ta_slI32_Bits; have t1 := ta_slI32_slI8; have t2 := ta_slI32_slI64; have t3 := ta_slI32_slF; have t4 := ta_slI32_slI32; have t5 := ta_slI32_slA
    obtain ⟨ao, cap, rfl, _⟩ := h.opened
    clear h
    go_enter Tryz.func45, Tryz.ntmps45
    go_wp2
    go_ret
    exact ⟨rfl, (Below.refl _ _).alloc (Nat.le_refl _) _⟩
  | boxes f g h1 h2 hc hs hv =>
    have t0 := ta_slA_Bits; have t1 := ta_slA_slI8; have t2 := ta_slA_slI64; have t3 := ta_slA_slF; have t4 := ta_slA_slI32; have t5 := ta_slA_slA
    go_enter Tryz.func45, Tryz.ntmps45
    go_wp2
    go_ret
    exact ⟨rfl, (Below.refl _ _).alloc (Nat.le_refl _) _⟩
theorem has_calls {ok : Nat → Prop} (u : Value) (V : VV) (i : Int) (w : World) (h : IsV w ok u V) : Calls Tryz.prog 101 #[.agg #[u], .int .i64 i] w fun e w' => e = .returned (.bool (decide (0 ≤ i) && decide (i < (V.len : Int)))) ∧ Below w.heap.size w w' := by
  have H := Lib.hid h
  clear h
  by_cases h0 : i < 0
  · have h0' : ¬ 0 ≤ i := by omega
    have hr : Hid ((decide (0 ≤ i) && decide (i < (V.len : Int))) = false) := Lib.hid (by simp; omega)
    go_enter Tryz.func101, Tryz.ntmps101
    go_wp2
    go_ret
    exact ⟨ret_b hr.out.symm, (Below.refl _ _).alloc (Nat.le_refl _) _⟩
  · have h0' : 0 ≤ i := by omega
    have hr : Hid ((decide (0 ≤ i) && decide (i < (V.len : Int))) = decide (i < (V.len : Int))) := Lib.hid (by simp; omega)
    go_enter Tryz.func101, Tryz.ntmps101
    go_wp2_with fail
    refine (vlen_calls _ _ _ (H.out.grow ((Below.refl _ _).alloc (Nat.le_refl _) _))).mono ?_
    rintro e w1 ⟨rfl, hB⟩
    have HB := Lib.hid (((Below.refl w.heap.size w).alloc (Nat.le_refl _) (.cells #[u] 29)).trans (hB.mono (by simp <;> omega)))
    clear hB
    go_wp2
    go_ret
    exact ⟨ret_b hr.out.symm, HB.out⟩
end Go.Proofs.YtbfcdpabjailcaaGreatDoor

/- Package slices: Clone, for five types of elements. -/
namespace Go.Proofs.YtbfcdpabjailcaaGreatDoor
open Go.RowKit
set_option linter.unusedVariables false
set_option maxRecDepth 100000

set_option maxHeartbeats 1000000 in
theorem CloneI8_calls {ok : Nat → Prop} (v : Value) (l : List Int) (w : World) (hv : Slc w ok v l.length (i8s l)) (hm0 : l.length ≤ 2000000) :
    Calls Tryz.prog 127 #[v] w fun e w' => ∃ v, e = .returned v ∧ Slc w' (fun b => w.heap.size ≤ b) v l.length (i8s l) ∧ Below w.heap.size w w' := by
  obtain ⟨i0, hi, hz0, hz1, hz2⟩ := info_parts info_i8
  obtain ⟨ao, cap, rfl, h1, h2, _, hcells⟩ := hv.opened
  have hm : l.length ≤ maxLen := by unfold maxLen; omega
  clear hv h1 h2
  have qT : ∀ (w : World) (a : Option Addr) (n c n' c' : Nat), (binOp .eql 79 (.slice a n c) (.slice none n' c')).run Tryz.prog w = .ok (.bool a.isNone) w := fun w a n c n' c' => Lib.run_eql_slice_nil w _ _ a n c n' c' Tryz.underlying79
  cases ao with
  | none =>
    have h0 : l = [] := by
      cases l with
      | nil => rfl
      | cons z zs => obtain ⟨b, off, e, _⟩ := hcells 0 (by simp [i8s]); cases e
    subst h0
    go_enter Tryz.func127, Tryz.ntmps127
    go_wp2
    go_ret
    exact ⟨_, rfl, Slc.nil _ _, Below.refl _ _⟩
  | some ad =>
    have hc : ∀ j u, (i8s l)[j]? = some u → w.cell? (ad.add j) = some u := by
      intro j u hj
      obtain ⟨hj', e⟩ := List.getElem?_eq_some_iff.1 hj
      obtain ⟨b, off, e2, _, hcell⟩ := hcells j hj'
      obtain rfl := Option.some.inj e2
      rw [← e, Go.WideShapes.add_plain]; exact hcell
    have HC := Lib.hid hc
    have hone : Hid (∀ u ∈ i8s l, u.oneCell' = true) := Lib.hid (by
      intro u hu
      simp only [i8s, List.mem_map] at hu
      obtain ⟨z, _, rfl⟩ := hu
      rfl)
    have hown := World.ownsRow_lit (base := w.heap.size) (e := 118) (size := 1) w #[] 0 (Nat.le_refl _) (by unfold maxLen; omega) rfl
    have HO := Lib.hid hown
    have HL := Lib.hid (show (i8s l).length = l.length * 1 by rw [i8s_len, Nat.mul_one])
    clear hc hown hcells
    go_enter Tryz.func127, Tryz.ntmps127
    go_wp2_with (at_builtin; refine wpList_append_own _ rfl _ _ 79 rfl w.heap.size 118 i0 (.int .i8 0) 1 1 Tryz.underlying79 hi hz0 hz1 hz2 rfl (by decide) _ _ _ rfl HO.out ad l.length cap (i8s l) rfl HL.out ?c1 hone.out ?c3 ?c4 ?c5 ?_)
    case c1 => exact fun j u hj => keep_alloc _ _ _ _ (HC.out j u hj)
    case c4 => omega
    intro v' w1 hown' hgrow _
    have HO1 := Lib.hid hown'
    have HB1 := Lib.hid (grown_below ((Below.refl w.heap.size w).alloc (Nat.le_refl _) _) HO.out (Nat.le_refl _) (by simp) hgrow)
    clear hown' hgrow
    go_wp2
    go_ret
    exact ⟨_, rfl, by have := Slc.owned HO1.out; simpa using this, HB1.out⟩

set_option maxHeartbeats 1000000 in
theorem CloneI64_calls {ok : Nat → Prop} (v : Value) (l : List Int) (w : World) (hv : Slc w ok v l.length (ints l)) (hm0 : l.length ≤ 2000000) :
    Calls Tryz.prog 81 #[v] w fun e w' => ∃ v, e = .returned v ∧ Slc w' (fun b => w.heap.size ≤ b) v l.length (ints l) ∧ Below w.heap.size w w' := by
  obtain ⟨i0, hi, hz0, hz1, hz2⟩ := info_parts info_i64
  obtain ⟨ao, cap, rfl, h1, h2, _, hcells⟩ := hv.opened
  have hm : l.length ≤ maxLen := by unfold maxLen; omega
  clear hv h1 h2
  have qT : ∀ (w : World) (a : Option Addr) (n c n' c' : Nat), (binOp .eql 66 (.slice a n c) (.slice none n' c')).run Tryz.prog w = .ok (.bool a.isNone) w := fun w a n c n' c' => Lib.run_eql_slice_nil w _ _ a n c n' c' Tryz.underlying66
  cases ao with
  | none =>
    have h0 : l = [] := by
      cases l with
      | nil => rfl
      | cons z zs => obtain ⟨b, off, e, _⟩ := hcells 0 (by simp [ints]); cases e
    subst h0
    go_enter Tryz.func81, Tryz.ntmps81
    go_wp2
    go_ret
    exact ⟨_, rfl, Slc.nil _ _, Below.refl _ _⟩
  | some ad =>
    have hc : ∀ j u, (ints l)[j]? = some u → w.cell? (ad.add j) = some u := by
      intro j u hj
      obtain ⟨hj', e⟩ := List.getElem?_eq_some_iff.1 hj
      obtain ⟨b, off, e2, _, hcell⟩ := hcells j hj'
      obtain rfl := Option.some.inj e2
      rw [← e, Go.WideShapes.add_plain]; exact hcell
    have HC := Lib.hid hc
    have hone : Hid (∀ u ∈ ints l, u.oneCell' = true) := Lib.hid (by
      intro u hu
      simp only [ints, List.mem_map] at hu
      obtain ⟨z, _, rfl⟩ := hu
      rfl)
    have hown := World.ownsRow_lit (base := w.heap.size) (e := 2) (size := 1) w #[] 0 (Nat.le_refl _) (by unfold maxLen; omega) rfl
    have HO := Lib.hid hown
    have HL := Lib.hid (show (ints l).length = l.length * 1 by rw [ints_len, Nat.mul_one])
    clear hc hown hcells
    go_enter Tryz.func81, Tryz.ntmps81
    go_wp2_with (at_builtin; refine wpList_append_own _ rfl _ _ 66 rfl w.heap.size 2 i0 (.int .i64 0) 1 8 Tryz.underlying66 hi hz0 hz1 hz2 rfl (by decide) _ _ _ rfl HO.out ad l.length cap (ints l) rfl HL.out ?c1 hone.out ?c3 ?c4 ?c5 ?_)
    case c1 => exact fun j u hj => keep_alloc _ _ _ _ (HC.out j u hj)
    case c4 => omega
    intro v' w1 hown' hgrow _
    have HO1 := Lib.hid hown'
    have HB1 := Lib.hid (grown_below ((Below.refl w.heap.size w).alloc (Nat.le_refl _) _) HO.out (Nat.le_refl _) (by simp) hgrow)
    clear hown' hgrow
    go_wp2
    go_ret
    exact ⟨_, rfl, by have := Slc.owned HO1.out; simpa using this, HB1.out⟩

set_option maxHeartbeats 1000000 in
theorem CloneI32_calls {ok : Nat → Prop} (v : Value) (l : List Int) (w : World) (hv : Slc w ok v l.length (i32s l)) (hm0 : l.length ≤ 2000000) :
    Calls Tryz.prog 117 #[v] w fun e w' => ∃ v, e = .returned v ∧ Slc w' (fun b => w.heap.size ≤ b) v l.length (i32s l) ∧ Below w.heap.size w w' := by
  obtain ⟨i0, hi, hz0, hz1, hz2⟩ := info_parts info_i32
  obtain ⟨ao, cap, rfl, h1, h2, _, hcells⟩ := hv.opened
  have hm : l.length ≤ maxLen := by unfold maxLen; omega
  clear hv h1 h2
  have qT : ∀ (w : World) (a : Option Addr) (n c n' c' : Nat), (binOp .eql 80 (.slice a n c) (.slice none n' c')).run Tryz.prog w = .ok (.bool a.isNone) w := fun w a n c n' c' => Lib.run_eql_slice_nil w _ _ a n c n' c' Tryz.underlying80
  cases ao with
  | none =>
    have h0 : l = [] := by
      cases l with
      | nil => rfl
      | cons z zs => obtain ⟨b, off, e, _⟩ := hcells 0 (by simp [i32s]); cases e
    subst h0
    go_enter Tryz.func117, Tryz.ntmps117
    go_wp2
    go_ret
    exact ⟨_, rfl, Slc.nil _ _, Below.refl _ _⟩
  | some ad =>
    have hc : ∀ j u, (i32s l)[j]? = some u → w.cell? (ad.add j) = some u := by
      intro j u hj
      obtain ⟨hj', e⟩ := List.getElem?_eq_some_iff.1 hj
      obtain ⟨b, off, e2, _, hcell⟩ := hcells j hj'
      obtain rfl := Option.some.inj e2
      rw [← e, Go.WideShapes.add_plain]; exact hcell
    have HC := Lib.hid hc
    have hone : Hid (∀ u ∈ i32s l, u.oneCell' = true) := Lib.hid (by
      intro u hu
      simp only [i32s, List.mem_map] at hu
      obtain ⟨z, _, rfl⟩ := hu
      rfl)
    have hown := World.ownsRow_lit (base := w.heap.size) (e := 21) (size := 1) w #[] 0 (Nat.le_refl _) (by unfold maxLen; omega) rfl
    have HO := Lib.hid hown
    have HL := Lib.hid (show (i32s l).length = l.length * 1 by rw [i32s_len, Nat.mul_one])
    clear hc hown hcells
    go_enter Tryz.func117, Tryz.ntmps117
    go_wp2_with (at_builtin; refine wpList_append_own _ rfl _ _ 80 rfl w.heap.size 21 i0 (.int .i32 0) 1 4 Tryz.underlying80 hi hz0 hz1 hz2 rfl (by decide) _ _ _ rfl HO.out ad l.length cap (i32s l) rfl HL.out ?c1 hone.out ?c3 ?c4 ?c5 ?_)
    case c1 => exact fun j u hj => keep_alloc _ _ _ _ (HC.out j u hj)
    case c4 => omega
    intro v' w1 hown' hgrow _
    have HO1 := Lib.hid hown'
    have HB1 := Lib.hid (grown_below ((Below.refl w.heap.size w).alloc (Nat.le_refl _) _) HO.out (Nat.le_refl _) (by simp) hgrow)
    clear hown' hgrow
    go_wp2
    go_ret
    exact ⟨_, rfl, by have := Slc.owned HO1.out; simpa using this, HB1.out⟩

set_option maxHeartbeats 1000000 in
theorem CloneF_calls {ok : Nat → Prop} (v : Value) (l : List Nat) (w : World) (hv : Slc w ok v l.length (f64s l)) (hm0 : l.length ≤ 2000000) :
    Calls Tryz.prog 126 #[v] w fun e w' => ∃ v, e = .returned v ∧ Slc w' (fun b => w.heap.size ≤ b) v l.length (f64s l) ∧ Below w.heap.size w w' := by
  obtain ⟨i0, hi, hz0, hz1, hz2⟩ := info_parts info_f64
  obtain ⟨ao, cap, rfl, h1, h2, _, hcells⟩ := hv.opened
  have hm : l.length ≤ maxLen := by unfold maxLen; omega
  clear hv h1 h2
  have qT : ∀ (w : World) (a : Option Addr) (n c n' c' : Nat), (binOp .eql 44 (.slice a n c) (.slice none n' c')).run Tryz.prog w = .ok (.bool a.isNone) w := fun w a n c n' c' => Lib.run_eql_slice_nil w _ _ a n c n' c' Tryz.underlying44
  cases ao with
  | none =>
    have h0 : l = [] := by
      cases l with
      | nil => rfl
      | cons z zs => obtain ⟨b, off, e, _⟩ := hcells 0 (by simp [f64s]); cases e
    subst h0
    go_enter Tryz.func126, Tryz.ntmps126
    go_wp2
    go_ret
    exact ⟨_, rfl, Slc.nil _ _, Below.refl _ _⟩
  | some ad =>
    have hc : ∀ j u, (f64s l)[j]? = some u → w.cell? (ad.add j) = some u := by
      intro j u hj
      obtain ⟨hj', e⟩ := List.getElem?_eq_some_iff.1 hj
      obtain ⟨b, off, e2, _, hcell⟩ := hcells j hj'
      obtain rfl := Option.some.inj e2
      rw [← e, Go.WideShapes.add_plain]; exact hcell
    have HC := Lib.hid hc
    have hone : Hid (∀ u ∈ f64s l, u.oneCell' = true) := Lib.hid (by
      intro u hu
      simp only [f64s, List.mem_map] at hu
      obtain ⟨z, _, rfl⟩ := hu
      rfl)
    have hown := World.ownsRow_lit (base := w.heap.size) (e := 38) (size := 1) w #[] 0 (Nat.le_refl _) (by unfold maxLen; omega) rfl
    have HO := Lib.hid hown
    have HL := Lib.hid (show (f64s l).length = l.length * 1 by rw [f64s_len, Nat.mul_one])
    clear hc hown hcells
    go_enter Tryz.func126, Tryz.ntmps126
    go_wp2_with (at_builtin; refine wpList_append_own _ rfl _ _ 44 rfl w.heap.size 38 i0 (.float .f64 0) 1 8 Tryz.underlying44 hi hz0 hz1 hz2 rfl (by decide) _ _ _ rfl HO.out ad l.length cap (f64s l) rfl HL.out ?c1 hone.out ?c3 ?c4 ?c5 ?_)
    case c1 => exact fun j u hj => keep_alloc _ _ _ _ (HC.out j u hj)
    case c4 => omega
    intro v' w1 hown' hgrow _
    have HO1 := Lib.hid hown'
    have HB1 := Lib.hid (grown_below ((Below.refl w.heap.size w).alloc (Nat.le_refl _) _) HO.out (Nat.le_refl _) (by simp) hgrow)
    clear hown' hgrow
    go_wp2
    go_ret
    exact ⟨_, rfl, by have := Slc.owned HO1.out; simpa using this, HB1.out⟩

set_option maxHeartbeats 1000000 in
theorem CloneInt_calls {ok : Nat → Prop} (v : Value) (l : List Int) (w : World) (hv : Slc w ok v l.length (ints l)) (hm0 : l.length ≤ 2000000) :
    Calls Tryz.prog 47 #[v] w fun e w' => ∃ v, e = .returned v ∧ Slc w' (fun b => w.heap.size ≤ b) v l.length (ints l) ∧ Below w.heap.size w w' := by
  obtain ⟨i0, hi, hz0, hz1, hz2⟩ := info_parts info_int
  obtain ⟨ao, cap, rfl, h1, h2, _, hcells⟩ := hv.opened
  have hm : l.length ≤ maxLen := by unfold maxLen; omega
  clear hv h1 h2
  have qT : ∀ (w : World) (a : Option Addr) (n c n' c' : Nat), (binOp .eql 22 (.slice a n c) (.slice none n' c')).run Tryz.prog w = .ok (.bool a.isNone) w := fun w a n c n' c' => Lib.run_eql_slice_nil w _ _ a n c n' c' Tryz.underlying22
  cases ao with
  | none =>
    have h0 : l = [] := by
      cases l with
      | nil => rfl
      | cons z zs => obtain ⟨b, off, e, _⟩ := hcells 0 (by simp [ints]); cases e
    subst h0
    go_enter Tryz.func47, Tryz.ntmps47
    go_wp2
    go_ret
    exact ⟨_, rfl, Slc.nil _ _, Below.refl _ _⟩
  | some ad =>
    have hc : ∀ j u, (ints l)[j]? = some u → w.cell? (ad.add j) = some u := by
      intro j u hj
      obtain ⟨hj', e⟩ := List.getElem?_eq_some_iff.1 hj
      obtain ⟨b, off, e2, _, hcell⟩ := hcells j hj'
      obtain rfl := Option.some.inj e2
      rw [← e, Go.WideShapes.add_plain]; exact hcell
    have HC := Lib.hid hc
    have hone : Hid (∀ u ∈ ints l, u.oneCell' = true) := Lib.hid (by
      intro u hu
      simp only [ints, List.mem_map] at hu
      obtain ⟨z, _, rfl⟩ := hu
      rfl)
    have hown := World.ownsRow_lit (base := w.heap.size) (e := 3) (size := 1) w #[] 0 (Nat.le_refl _) (by unfold maxLen; omega) rfl
    have HO := Lib.hid hown
    have HL := Lib.hid (show (ints l).length = l.length * 1 by rw [ints_len, Nat.mul_one])
    clear hc hown hcells
    go_enter Tryz.func47, Tryz.ntmps47
    go_wp2_with (at_builtin; refine wpList_append_own _ rfl _ _ 22 rfl w.heap.size 3 i0 (.int .i64 0) 1 8 Tryz.underlying22 hi hz0 hz1 hz2 rfl (by decide) _ _ _ rfl HO.out ad l.length cap (ints l) rfl HL.out ?c1 hone.out ?c3 ?c4 ?c5 ?_)
    case c1 => exact fun j u hj => keep_alloc _ _ _ _ (HC.out j u hj)
    case c4 => omega
    intro v' w1 hown' hgrow _
    have HO1 := Lib.hid hown'
    have HB1 := Lib.hid (grown_below ((Below.refl w.heap.size w).alloc (Nat.le_refl _) _) HO.out (Nat.le_refl _) (by simp) hgrow)
    clear hown' hgrow
    go_wp2
    go_ret
    exact ⟨_, rfl, by have := Slc.owned HO1.out; simpa using this, HB1.out⟩
end Go.Proofs.YtbfcdpabjailcaaGreatDoor

/- Package vec, walked: Bits, Smalls, Ints, Floats, Chars. -/
namespace Go.Proofs.YtbfcdpabjailcaaGreatDoor
open Go.RowKit
set_option linter.unusedVariables false
set_option maxRecDepth 100000

/-- A block of one cell, known, not frozen. -/
def At1 (w : World) (b : Nat) (x : Value) : Prop := b < w.heap.size ∧ w.cell? ⟨b, 0, none⟩ = some x ∧ ∀ o, w.frozen? ⟨b, o, none⟩ = false
theorem At1.new (w : World) (x : Value) (t : TypeId) : At1 (w.alloc (.cells #[x] t)) w.heap.size x := ⟨by simp, by simp, fun o => by simp⟩
theorem At1.below {w w' : World} {b : Nat} {x : Value} (h : At1 w b x) (hb : Below w.heap.size w w') : At1 w' b x :=
  ⟨Nat.lt_of_lt_of_le h.1 hb.size, keep_below hb _ _ h.2.1, fun o => (hb.frozen (p := ⟨b, o, none⟩) h.1).trans (h.2.2 o)⟩
theorem At1.grown {w w' : World} {b : Nat} {x : Value} (h : At1 w b x) {row : Option Nat} (hg : w.grownBy w' row) (hne : some b ≠ row) : At1 w' b x :=
  ⟨Nat.lt_of_lt_of_le h.1 hg.size, hg.cell h.2.1 hne, fun o => (grown_frozen hg h.1 hne).trans (h.2.2 o)⟩
theorem below_set1 {w w2 : World} {b0 : Nat} (x : Value) (h : Below w.heap.size w w2) (hb : w.heap.size ≤ b0) : Below w.heap.size w (w2.setCell ⟨b0, 0, none⟩ x) := h.setCell (by exact hb) _
theorem below_new (w : World) (o : Obj) : Below w.heap.size w (w.alloc o) := (Below.refl _ _).alloc (Nat.le_refl _) _
theorem vsmalls_calls {ok : Nat → Prop} (v : Value) (l : List Int) (w : World) (hv : Slc w ok v l.length (i8s l)) (hm : l.length ≤ 2000000) :
    Calls Tryz.prog 110 #[v] w fun e w' => ∃ u, e = .returned (.agg #[u]) ∧ IsV w' (fun b => w.heap.size ≤ b) u (.smalls l) ∧ Below w.heap.size w w' := by
  have HV := Lib.hid hv
  obtain ⟨ao, cap, rfl, _⟩ := hv.opened
  clear hv
  go_enter Tryz.func110, Tryz.ntmps110
  go_wp2_with fail
  refine (CloneI8_calls _ l _ (HV.out.below (below_new _ _)) hm).mono ?_
  rintro e w1 ⟨v1, rfl, hs, hB⟩
  obtain ⟨_, a0, af⟩ := (At1.new w .nilIface 29).below hB
  have af0 := af 0
  have HS := Lib.hid hs
  have HB := Lib.hid ((below_new w (.cells #[.nilIface] 29)).trans (hB.mono (by simp)))
  clear hs hB af
  go_wp2
  refine bodyPost_ret (v := .agg #[.iface 79 v1]) (by simp [results, Tryz.results110, go_sem, a0]) rfl ⟨_, rfl, ?_, below_set1 _ HB.out (Nat.le_refl _)⟩
  exact .smalls (HS.out.keep (Kept.setCell _ _ _ (by simp)) (fun b _ h => by simp at h; omega))

theorem vchars_calls {ok : Nat → Prop} (v : Value) (l : List Int) (w : World) (hv : Slc w ok v l.length (i32s l)) (hm : l.length ≤ 2000000) :
    Calls Tryz.prog 86 #[v] w fun e w' => ∃ u, e = .returned (.agg #[u]) ∧ IsV w' (fun b => w.heap.size ≤ b) u (.chars l) ∧ Below w.heap.size w w' := by
  have HV := Lib.hid hv
  obtain ⟨ao, cap, rfl, _⟩ := hv.opened
  clear hv
  go_enter Tryz.func86, Tryz.ntmps86
  go_wp2_with fail
  refine (CloneI32_calls _ l _ (HV.out.below (below_new _ _)) hm).mono ?_
  rintro e w1 ⟨v1, rfl, hs, hB⟩
  obtain ⟨_, a0, af⟩ := (At1.new w .nilIface 29).below hB
  have af0 := af 0
  have HS := Lib.hid hs
  have HB := Lib.hid ((below_new w (.cells #[.nilIface] 29)).trans (hB.mono (by simp)))
  clear hs hB af
  go_wp2
  refine bodyPost_ret (v := .agg #[.iface 80 v1]) (by simp [results, Tryz.results86, go_sem, a0]) rfl ⟨_, rfl, ?_, below_set1 _ HB.out (Nat.le_refl _)⟩
  exact .chars (HS.out.keep (Kept.setCell _ _ _ (by simp)) (fun b _ h => by simp at h; omega))

theorem vbits_ok {ok : Nat → Prop} (v : Value) (l : List Bool) (w : World) (hv : IsBitsX w ok v l) (hm : l.length ≤ 1048576) :
    Calls Tryz.prog 82 #[v] w fun e w' => ∃ u, e = .returned (.agg #[u]) ∧ IsV w' ok u (.bits l) ∧ Below w.heap.size w w' := by
  obtain ⟨s, rfl, hs⟩ := hv
  have HS := Lib.hid hs
  obtain ⟨_, ao, cap, rfl, _⟩ := hs
  go_enter Tryz.func82, Tryz.ntmps82
  go_wp2
  refine bodyPost_ret (v := .agg #[.iface 78 (.agg #[.int .i64 l.length, .slice ao ((l.length + 63) / 64) cap])]) (by simp [results, Tryz.results82, go_sem]) rfl ⟨_, rfl, .bits (HS.out.keep ?_ (fun _ _ h => h)) hm, ?_⟩
  · exact Kept.below ((below_new _ _).alloc (by simp) _)
  · exact (below_new _ _).alloc (by simp) _
theorem At1.go {w w' : World} {b : Nat} {x : Value} (h : At1 w b x) (hB : Below w.heap.size w w') : Hid (At1 w' b x) := Lib.hid (h.below hB)
end Go.Proofs.YtbfcdpabjailcaaGreatDoor

/- Package vec, walked: Ints, Floats. -/
namespace Go.Proofs.YtbfcdpabjailcaaGreatDoor
open Go.RowKit
set_option linter.unusedVariables false
set_option maxRecDepth 100000

theorem all_take_step {α : Type} {p : α → Bool} {l : List α} {k : Nat} (h : k < l.length) (h1 : (l.take k).all p = true) (h2 : p (l[k]'h) = true) : (l.take (k + 1)).all p = true := by
  rw [List.take_succ_eq_append_getElem h, List.all_append, h1]; simp [h2]
set_option maxHeartbeats 1000000 in
theorem vints_yes {ok : Nat → Prop} (v : Value) (l : List Int) (w : World) (hv : Slc w ok v l.length (ints l)) (hm : l.length ≤ 2000000) (hsm : l.all sm = true) :
    Calls Tryz.prog 112 #[v] w fun e w' => ∃ u, e = .returned (.tuple #[.agg #[u], .bool true]) ∧ IsV w' (fun b => w.heap.size ≤ b) u (.ints l) ∧ Below w.heap.size w w' := by
  have HV := Lib.hid hv
  have HQ := Lib.hid hsm
  clear hsm
  obtain ⟨ao, cap, rfl, _, _, _, hc⟩ := hv.opened
  have HC := Lib.hid hc
  clear hv hc
  obtain ⟨W0, hW0⟩ : ∃ W0, W0 = w.alloc (.cells #[.nilIface] 29) := ⟨_, rfl⟩
  have HW := Lib.hid (show Below w.heap.size w W0 by rw [hW0]; exact below_new _ _)
  have HA := Lib.hid (show At1 W0 w.heap.size .nilIface by rw [hW0]; exact At1.new _ _ _)
  have HS := Lib.hid (show W0.heap.size = w.heap.size + 1 by rw [hW0]; simp)
  go_enter Tryz.func112, Tryz.ntmps112
  go_wp2
  rw [← hW0]
  clear hW0
  go_loopw [8] (fun i wr => ∃ k : Nat, k ≤ l.length ∧ i = .int .i64 k ∧ wr = W0 ∧ (l.take k).all sm = true) (fun i _ => l.length - (intOf i).toNat)
  case atStart => exact ⟨0, by omega, rfl, rfl, rfl⟩
  case round =>
    obtain ⟨k, hk, rfl, rfl, hall⟩ := hrel
    have HL := Lib.hid hall
    clear hall
    by_cases hlt : k < l.length
    · obtain ⟨b, off, rfl, _, hcl0⟩ := HC.out k (by rw [ints_len]; exact hlt)
      have hcl := keep_below HW.out _ _ hcl0
      rw [ints_get] at hcl
      obtain ⟨z, hz⟩ : ∃ z : Int, z = l[k]'hlt := ⟨_, rfl⟩
      rw [← hz] at hcl
      have HZ := Lib.hid hz
      clear hz hcl0
      have hz2 := List.all_eq_true.1 HQ.out z (by rw [HZ.out]; exact List.getElem_mem hlt)
      have hf := Lib.hid (all_take_step (p := sm) hlt HL.out (by rw [← HZ.out]; exact hz2))
      obtain ⟨h1, h2⟩ := sm_of hz2
      have h1' : ¬ z < -9007199254740992 := by omega
      have h2' : ¬ 9007199254740992 < z := by omega
      clear hz2
      go_wp2
      go_roundw
      case rel => exact ⟨k + 1, by omega, by go_num, by trivial, hf.out⟩
      case measure => simp [intOf]; omega
    · clear hk
      go_wp2_with fail
      refine (CloneI64_calls _ l _ (HV.out.below HW.out) hm).mono ?_
      rintro e w1 ⟨v1, rfl, hs, hB⟩
      obtain ⟨_, a0, af⟩ := HA.out.below hB
      have af0 := af 0
      have HS1 := Lib.hid hs
      have HB := Lib.hid (HW.out.trans (hB.mono (by rw [HS.out]; omega)))
      clear hs hB af
      go_wp2
      refine bodyPost_ret (v := .tuple #[.agg #[.iface 66 v1], .bool true]) (by simp [results, Tryz.results112, go_sem, a0]) rfl ⟨_, rfl, ?_, below_set1 _ HB.out (Nat.le_refl _)⟩
      exact .ints (HS1.out.keep (Kept.setCell _ _ _ (by rw [HS.out]; simp)) (fun b _ h => by rw [HS.out] at h; omega))
end Go.Proofs.YtbfcdpabjailcaaGreatDoor

/- Slices made and filled; package vec, walked: Floats, flags, converted. -/
namespace Go.Proofs.YtbfcdpabjailcaaGreatDoor
open Go.RowKit
set_option linter.unusedVariables false
set_option maxRecDepth 100000

theorem run_store_float (w : World) (a : Addr) (k : FloatKind) (n : Nat) (m : Mode) : (store a (.float k n) m).run Tryz.prog w = stored Tryz.prog w a (.float k n) m := run_store Tryz.prog w a _ m rfl
/-- n cells z. -/
def zerosV (z : Value) (n : Nat) : Array Value := madeCells #[z] (n * 1)
theorem own_make1 (z : Value) (e : TypeId) (n : Nat) (hn : n ≤ 2000000) (w : World) (base : Nat) (hb : base ≤ w.heap.size) : (w.alloc (.cells (zerosV z n) e)).ownsRow base e 1 (.slice (some ⟨w.heap.size, 0, none⟩) n n) n (List.replicate n z) := by
  have ho := World.ownsRow_lit (e := e) (size := 1) w (zerosV z n) n hb (by unfold maxLen; omega) (size_madeCells _ _)
  have e : (zerosV z n).toList = List.replicate n z := by rw [zerosV, toList_madeCells_one]; simp
  rw [← e]; exact ho
/-- The first k of xs, z behind. -/
def fillTo (xs : List Value) (z : Value) (k : Nat) : List Value := xs.take k ++ List.replicate (xs.length - k) z
theorem fillTo_zero (xs : List Value) (z : Value) : fillTo xs z 0 = List.replicate xs.length z := by simp [fillTo]
theorem fillTo_all (xs : List Value) (z : Value) : fillTo xs z xs.length = xs := by simp [fillTo]
theorem fillTo_len (xs : List Value) (z : Value) (k : Nat) (h : k ≤ xs.length) : (fillTo xs z k).length = xs.length := by simp [fillTo]; omega
theorem fillTo_set (xs : List Value) (z : Value) (k : Nat) (h : k < xs.length) : (fillTo xs z k).set k xs[k] = fillTo xs z (k + 1) := by
  have e : xs.length - k = (xs.length - (k + 1)) + 1 := by omega
  have ht : (xs.take k).length = k := by simp; omega
  unfold fillTo
  rw [List.set_append_right _ _ (by omega), ht, Nat.sub_self, e, List.replicate_succ, List.set_cons_zero, List.take_succ_eq_append_getElem h, List.append_assoc]
  rfl
theorem run_mkF1 (n : Nat) (hn : n ≤ 2000000) (w : World) : (Instr.makeSlice 44 (.int .i64 (n : Int)) (.int .i64 (n : Int))).run Tryz.prog w = .ok (.slice (some ⟨w.heap.size, 0, none⟩) n n) (w.alloc (.cells (zerosV (.float .f64 0) n) 38)) := by
  obtain ⟨i0, hi, hz0, hz1, hz2⟩ := info_parts info_f64
  have hr := run_make (P := Tryz.prog) w 44 38 i0 _ Tryz.underlying44 hi hz0 .i64 .i64 n n (by omega) (Int.le_refl _) (by rw [hz2]; omega) (by omega)
  simp only [Int.toNat_natCast, hz1] at hr
  exact hr
theorem run_mkI1 (n : Nat) (hn : n ≤ 2000000) (w : World) : (Instr.makeSlice 66 (.int .i64 (n : Int)) (.int .i64 (n : Int))).run Tryz.prog w = .ok (.slice (some ⟨w.heap.size, 0, none⟩) n n) (w.alloc (.cells (zerosV (.int .i64 0) n) 2)) := by
  obtain ⟨i0, hi, hz0, hz1, hz2⟩ := info_parts info_i64
  have hr := run_make (P := Tryz.prog) w 66 2 i0 _ Tryz.underlying66 hi hz0 .i64 .i64 n n (by omega) (Int.le_refl _) (by rw [hz2]; omega) (by omega)
  simp only [Int.toNat_natCast, hz1] at hr
  exact hr

set_option maxHeartbeats 1000000 in
theorem ConvII_calls {ok : Nat → Prop} (v : Value) (l : List Int) (w : World) (hv : Slc w ok v l.length (i8s l)) (hm : l.length ≤ 2000000) (hw : ∀ x ∈ l, -128 ≤ x ∧ x ≤ 127) :
    Calls Tryz.prog 80 #[v] w fun e w' => ∃ v, e = .returned v ∧ Slc w' (fun b => w.heap.size ≤ b) v l.length (ints l) ∧ Below w.heap.size w w' := by
  obtain ⟨ao, cap, rfl, _, _, _, hc⟩ := hv.opened
  have HC := Lib.hid hc
  clear hv hc
  have HWF := Lib.hid hw
  clear hw
  obtain ⟨xs, hxs⟩ : ∃ xs : List Value, xs = (ints l) := ⟨_, rfl⟩
  have hxl : xs.length = l.length := by rw [hxs]; simp [ints]
  have hget : ∀ k (h : k < xs.length) (h2 : k < l.length), ∃ x : Int, x = l[k]'h2 ∧ xs[k]'h = .int .i64 x := by intro k h h2; refine ⟨_, rfl, ?_⟩; simp [hxs, ints]
  rw [← hxs]
  have HX := Lib.hid hget
  have HXL := Lib.hid hxl
  have hmk := run_mkI1 l.length (by omega) w
  clear hxs hget hxl
  obtain ⟨W0, hW0⟩ : ∃ W0, W0 = w.alloc (.cells (zerosV (.int .i64 0) l.length) 2) := ⟨_, rfl⟩
  have HO0 : Hid (W0.ownsRow w.heap.size 2 1 (.slice (some ⟨w.heap.size, 0, none⟩) l.length l.length) l.length (List.replicate l.length (.int .i64 0))) := Lib.hid (by rw [hW0]; exact own_make1 _ _ _ (by omega) _ _ (Nat.le_refl _))
  have HW := Lib.hid (show Below w.heap.size w W0 by rw [hW0]; exact below_new _ _)
  go_enter Tryz.func80, Tryz.ntmps80
  go_wp2
  rw [← hW0]
  clear hW0 hmk
  go_loopw [11] (fun i wr => ∃ k : Nat, k ≤ l.length ∧ i = .int .i64 k ∧ wr.ownsRow w.heap.size 2 1 (.slice (some ⟨w.heap.size, 0, none⟩) l.length l.length) l.length (fillTo xs (.int .i64 0) k) ∧ W0.grownBy wr (some w.heap.size)) (fun i _ => l.length - (intOf i).toNat)
  case atStart => exact ⟨0, by omega, rfl, by rw [fillTo_zero, HXL.out]; exact HO0.out, grown_refl _ _⟩
  case round =>
    obtain ⟨k, hk, rfl, hown, hgr⟩ := hrel
    have HO := Lib.hid hown
    have HG := Lib.hid hgr
    have HB := Lib.hid (HW.out.grown hgr HW.out.size (fun j hj => by cases hj; omega))
    by_cases hlt : k < l.length
    · obtain ⟨b, off, rfl, _, hcl0⟩ := HC.out k (by rw [i8s_len]; exact hlt)
      have hcl := keep_below HB.out _ _ hcl0
      rw [i8s_get] at hcl
      obtain ⟨x, hx, hxk⟩ := HX.out k (by rw [HXL.out]; exact hlt) hlt
      have hcw := owns_cell HO.out k (by rw [fillTo_len _ _ _ (by rw [HXL.out]; exact hk), HXL.out]; exact hlt)
      have hfr := World.ownsRow.frozenAt HO.out k
      rw [← hx] at hcl
      have hwx := HWF.out x (by rw [hx]; exact List.getElem_mem hlt)
      obtain ⟨hw1, hw2⟩ := hwx
      have HXK := Lib.hid hxk
      clear hown hgr hcl0 hx hxk
      go_wp2
      go_roundw
      case rel =>
        refine ⟨k + 1, by omega, by go_num, ?_, grown_trans HG.out (grown_setCell _ ⟨w.heap.size, k, none⟩ _)⟩
        have := (World.ownsRow.stored HO.out k (.int .i64 x)).1
        rw [← HXK.out, fillTo_set] at this
        rw [← HXK.out]
        exact this
      case measure => simp [intOf]; omega
    · have hkl : k = l.length := by omega
      have HK := Lib.hid hkl
      clear hown hgr hkl
      go_wp2
      go_ret
      refine ⟨_, rfl, ?_, HB.out⟩
      have := Slc.owned HO.out
      rwa [HK.out, ← HXL.out, fillTo_all, HXL.out] at this

set_option maxHeartbeats 1000000 in
theorem ConvFI8_calls {ok : Nat → Prop} (v : Value) (l : List Int) (w : World) (hv : Slc w ok v l.length (i8s l)) (hm : l.length ≤ 2000000) :
    Calls Tryz.prog 124 #[v] w fun e w' => ∃ v, e = .returned v ∧ Slc w' (fun b => w.heap.size ≤ b) v l.length (f64s (l.map (floatOfInt .f64))) ∧ Below w.heap.size w w' := by
  obtain ⟨ao, cap, rfl, _, _, _, hc⟩ := hv.opened
  have HC := Lib.hid hc
  clear hv hc
  have hcv : ∀ n w, (convert 118 38 (.int .i8 n)).run Tryz.prog w = .ok (.float .f64 (floatOfInt .f64 n)) w := fun n w => run_convert_int_float w 118 38 .i8 .f64 n (by kernel_rfl) (by kernel_rfl)
  have hst := run_store_float
  obtain ⟨xs, hxs⟩ : ∃ xs : List Value, xs = (f64s (l.map (floatOfInt .f64))) := ⟨_, rfl⟩
  have hxl : xs.length = l.length := by rw [hxs]; simp [f64s]
  have hget : ∀ k (h : k < xs.length) (h2 : k < l.length), ∃ x : Int, x = l[k]'h2 ∧ xs[k]'h = .float .f64 (floatOfInt .f64 x) := by intro k h h2; refine ⟨_, rfl, ?_⟩; simp [hxs, f64s]
  rw [← hxs]
  have HX := Lib.hid hget
  have HXL := Lib.hid hxl
  have hmk := run_mkF1 l.length (by omega) w
  clear hxs hget hxl
  obtain ⟨W0, hW0⟩ : ∃ W0, W0 = w.alloc (.cells (zerosV (.float .f64 0) l.length) 38) := ⟨_, rfl⟩
  have HO0 : Hid (W0.ownsRow w.heap.size 38 1 (.slice (some ⟨w.heap.size, 0, none⟩) l.length l.length) l.length (List.replicate l.length (.float .f64 0))) := Lib.hid (by rw [hW0]; exact own_make1 _ _ _ (by omega) _ _ (Nat.le_refl _))
  have HW := Lib.hid (show Below w.heap.size w W0 by rw [hW0]; exact below_new _ _)
  go_enter Tryz.func124, Tryz.ntmps124
  go_wp2
  rw [← hW0]
  clear hW0 hmk
  go_loopw [11] (fun i wr => ∃ k : Nat, k ≤ l.length ∧ i = .int .i64 k ∧ wr.ownsRow w.heap.size 38 1 (.slice (some ⟨w.heap.size, 0, none⟩) l.length l.length) l.length (fillTo xs (.float .f64 0) k) ∧ W0.grownBy wr (some w.heap.size)) (fun i _ => l.length - (intOf i).toNat)
  case atStart => exact ⟨0, by omega, rfl, by rw [fillTo_zero, HXL.out]; exact HO0.out, grown_refl _ _⟩
  case round =>
    obtain ⟨k, hk, rfl, hown, hgr⟩ := hrel
    have HO := Lib.hid hown
    have HG := Lib.hid hgr
    have HB := Lib.hid (HW.out.grown hgr HW.out.size (fun j hj => by cases hj; omega))
    by_cases hlt : k < l.length
    · obtain ⟨b, off, rfl, _, hcl0⟩ := HC.out k (by rw [i8s_len]; exact hlt)
      have hcl := keep_below HB.out _ _ hcl0
      rw [i8s_get] at hcl
      obtain ⟨x, hx, hxk⟩ := HX.out k (by rw [HXL.out]; exact hlt) hlt
      have hcw := owns_cell HO.out k (by rw [fillTo_len _ _ _ (by rw [HXL.out]; exact hk), HXL.out]; exact hlt)
      have hfr := World.ownsRow.frozenAt HO.out k
      rw [← hx] at hcl
      have HXK := Lib.hid hxk
      clear hown hgr hcl0 hx hxk
      go_wp2
      go_roundw
      case rel =>
        refine ⟨k + 1, by omega, by go_num, ?_, grown_trans HG.out (grown_setCell _ ⟨w.heap.size, k, none⟩ _)⟩
        have := (World.ownsRow.stored HO.out k (.float .f64 (floatOfInt .f64 x))).1
        rw [← HXK.out, fillTo_set] at this
        rw [← HXK.out]
        exact this
      case measure => simp [intOf]; omega
    · have hkl : k = l.length := by omega
      have HK := Lib.hid hkl
      clear hown hgr hkl
      go_wp2
      go_ret
      refine ⟨_, rfl, ?_, HB.out⟩
      have := Slc.owned HO.out
      rwa [HK.out, ← HXL.out, fillTo_all, HXL.out] at this

set_option maxHeartbeats 1000000 in
theorem ConvFI_calls {ok : Nat → Prop} (v : Value) (l : List Int) (w : World) (hv : Slc w ok v l.length (ints l)) (hm : l.length ≤ 2000000) :
    Calls Tryz.prog 125 #[v] w fun e w' => ∃ v, e = .returned v ∧ Slc w' (fun b => w.heap.size ≤ b) v l.length (f64s (l.map (floatOfInt .f64))) ∧ Below w.heap.size w w' := by
  obtain ⟨ao, cap, rfl, _, _, _, hc⟩ := hv.opened
  have HC := Lib.hid hc
  clear hv hc
  have hcv : ∀ n w, (convert 2 38 (.int .i64 n)).run Tryz.prog w = .ok (.float .f64 (floatOfInt .f64 n)) w := fun n w => run_convert_int_float w 2 38 .i64 .f64 n (by kernel_rfl) (by kernel_rfl)
  have hst := run_store_float
  obtain ⟨xs, hxs⟩ : ∃ xs : List Value, xs = (f64s (l.map (floatOfInt .f64))) := ⟨_, rfl⟩
  have hxl : xs.length = l.length := by rw [hxs]; simp [f64s]
  have hget : ∀ k (h : k < xs.length) (h2 : k < l.length), ∃ x : Int, x = l[k]'h2 ∧ xs[k]'h = .float .f64 (floatOfInt .f64 x) := by intro k h h2; refine ⟨_, rfl, ?_⟩; simp [hxs, f64s]
  rw [← hxs]
  have HX := Lib.hid hget
  have HXL := Lib.hid hxl
  have hmk := run_mkF1 l.length (by omega) w
  clear hxs hget hxl
  obtain ⟨W0, hW0⟩ : ∃ W0, W0 = w.alloc (.cells (zerosV (.float .f64 0) l.length) 38) := ⟨_, rfl⟩
  have HO0 : Hid (W0.ownsRow w.heap.size 38 1 (.slice (some ⟨w.heap.size, 0, none⟩) l.length l.length) l.length (List.replicate l.length (.float .f64 0))) := Lib.hid (by rw [hW0]; exact own_make1 _ _ _ (by omega) _ _ (Nat.le_refl _))
  have HW := Lib.hid (show Below w.heap.size w W0 by rw [hW0]; exact below_new _ _)
  go_enter Tryz.func125, Tryz.ntmps125
  go_wp2
  rw [← hW0]
  clear hW0 hmk
  go_loopw [11] (fun i wr => ∃ k : Nat, k ≤ l.length ∧ i = .int .i64 k ∧ wr.ownsRow w.heap.size 38 1 (.slice (some ⟨w.heap.size, 0, none⟩) l.length l.length) l.length (fillTo xs (.float .f64 0) k) ∧ W0.grownBy wr (some w.heap.size)) (fun i _ => l.length - (intOf i).toNat)
  case atStart => exact ⟨0, by omega, rfl, by rw [fillTo_zero, HXL.out]; exact HO0.out, grown_refl _ _⟩
  case round =>
    obtain ⟨k, hk, rfl, hown, hgr⟩ := hrel
    have HO := Lib.hid hown
    have HG := Lib.hid hgr
    have HB := Lib.hid (HW.out.grown hgr HW.out.size (fun j hj => by cases hj; omega))
    by_cases hlt : k < l.length
    · obtain ⟨b, off, rfl, _, hcl0⟩ := HC.out k (by rw [ints_len]; exact hlt)
      have hcl := keep_below HB.out _ _ hcl0
      rw [ints_get] at hcl
      obtain ⟨x, hx, hxk⟩ := HX.out k (by rw [HXL.out]; exact hlt) hlt
      have hcw := owns_cell HO.out k (by rw [fillTo_len _ _ _ (by rw [HXL.out]; exact hk), HXL.out]; exact hlt)
      have hfr := World.ownsRow.frozenAt HO.out k
      rw [← hx] at hcl
      have HXK := Lib.hid hxk
      clear hown hgr hcl0 hx hxk
      go_wp2
      go_roundw
      case rel =>
        refine ⟨k + 1, by omega, by go_num, ?_, grown_trans HG.out (grown_setCell _ ⟨w.heap.size, k, none⟩ _)⟩
        have := (World.ownsRow.stored HO.out k (.float .f64 (floatOfInt .f64 x))).1
        rw [← HXK.out, fillTo_set] at this
        rw [← HXK.out]
        exact this
      case measure => simp [intOf]; omega
    · have hkl : k = l.length := by omega
      have HK := Lib.hid hkl
      clear hown hgr hkl
      go_wp2
      go_ret
      refine ⟨_, rfl, ?_, HB.out⟩
      have := Slc.owned HO.out
      rwa [HK.out, ← HXL.out, fillTo_all, HXL.out] at this
end Go.Proofs.YtbfcdpabjailcaaGreatDoor

/- Package vec, walked: flags, Floats. -/
namespace Go.Proofs.YtbfcdpabjailcaaGreatDoor
open Go.RowKit
set_option linter.unusedVariables false
set_option maxRecDepth 100000

/-- n cells z, but o at the places of S. -/
def marked (z o : Value) (n : Nat) (S : List Nat) : List Value := (List.range n).map fun i => if i ∈ S then o else z
theorem marked_nil (z o : Value) (n : Nat) : marked z o n [] = List.replicate n z := by
  apply List.ext_getElem (by simp [marked]); intro i h1 h2; simp [marked]
theorem marked_len (z o : Value) (n : Nat) (S : List Nat) : (marked z o n S).length = n := by simp [marked]
theorem marked_set (z o : Value) (n : Nat) (S : List Nat) (j : Nat) : (marked z o n S).set j o = marked z o n (S ++ [j]) := by
  apply List.ext_getElem (by simp [marked])
  intro i h1 h2
  rw [List.getElem_set]
  simp only [marked, List.getElem_map, List.getElem_range, List.mem_append, List.mem_singleton]
  by_cases e : j = i
  · subst e; simp
  · have e' : ¬ i = j := fun h => e h.symm
    simp [e, e']
theorem marked_take (z o : Value) (n : Nat) (S : List Nat) (k : Nat) (h : k < S.length) : (marked z o n (S.take k)).set (S[k]'h) o = marked z o n (S.take (k + 1)) := by
  rw [marked_set, List.take_succ_eq_append_getElem h]
theorem marked_all (z o : Value) (l : List Bool) : marked z o l.length ((List.range l.length).filter (sq l)) = l.map fun b => if b then o else z := by
  apply List.ext_getElem (by simp [marked])
  intro i h1 h2
  have hi : i < l.length := by simpa [marked] using h1
  simp [marked, hi, sq]
theorem ones_at (l : List Bool) (k : Nat) (h : k < ((List.range l.length).filter (sq l)).length) : ((List.range l.length).filter (sq l))[k] < l.length := by
  have := List.getElem_mem h
  simpa using (List.mem_filter.1 this).1
/-- 1 for each that is true. -/
def flagW (b : Bool) : Nat := if b then 4607182418800017408 else 0
def flagZ (b : Bool) : Int := if b then 1 else 0

set_option maxHeartbeats 1000000 in
theorem FlagsF_calls (v : Value) (l : List Bool) (w : World) (hv : IsBits w v l) (hl : l.length ≤ 1048576) (hT : TabAt w) :
    Calls Tryz.prog 123 #[v] w fun e w' => ∃ v, e = .returned v ∧ Slc w' (fun b => w.heap.size ≤ b) v l.length (f64s (l.map flagW)) ∧ Below w.heap.size w w' := by
  have HV := Lib.hid hv
  have HT := Lib.hid hT
  obtain ⟨ao, cap, rfl, _⟩ := hv.opened
  clear hv hT
  obtain ⟨K, hK⟩ : ∃ K, (l.length + 63) / 64 = K := ⟨_, rfl⟩
  rw [hK] at HV ⊢
  clear hK
  have HE : Hid ((f64s (l.map flagW)) = l.map fun b => if b then (.float .f64 4607182418800017408) else (.float .f64 0)) := Lib.hid (by simp only [f64s, List.map_map]; apply List.map_congr_left; intro b _; cases b <;> rfl)
  rw [HE.out]
  obtain ⟨S, hS⟩ : ∃ S, S = (List.range l.length).filter (sq l) := ⟨_, rfl⟩
  have HON := Lib.hid (show onesTo (sq l) l.length = S.map fun j : Nat => (j : Int) by rw [hS]; rfl)
  have HSL := Lib.hid (show ∀ k (h : k < S.length), S[k]'h < l.length by subst hS; exact fun k h => ones_at l k h)
  have HAL := Lib.hid (show marked (.float .f64 0) (.float .f64 4607182418800017408) l.length S = l.map fun b => if b then (.float .f64 4607182418800017408) else (.float .f64 0) by rw [hS]; exact marked_all _ _ _)
  have hSm : S.length ≤ 1048576 := Nat.le_trans (by rw [hS]; simpa using List.length_filter_le (sq l) (List.range l.length)) hl
  clear hS
  have hmk := run_mkF1 l.length (by omega)
  have HM := Lib.hid hmk
  clear hmk
  have hst := run_store_float
  go_enter Tryz.func123, Tryz.ntmps123
  go_wp2_with fail
  refine (len_calls _ l _ (HV.out.keep (keep_alloc _ _))).mono ?_
  rintro e w1 ⟨rfl, hB⟩
  have hA1 : Hid (At2 w1 w.heap.size (.int .i64 l.length) (.slice ao K cap)) := Lib.hid ((At2.new _ _ _ _).below hB)
  have hB1 : Hid (Below w.heap.size w w1) := Lib.hid ((below_new w (.cells #[.int .i64 l.length, .slice ao K cap] 78)).trans (hB.mono (by simp)))
  have hs1 : Hid (w.heap.size + 1 ≤ w1.heap.size) := Lib.hid (by have := hB.size; simpa using this)
  clear hB
  have hmk := HM.out w1
  obtain ⟨W0, hW0⟩ : ∃ W0, W0 = w1.alloc (.cells (zerosV (.float .f64 0) l.length) 38) := ⟨_, rfl⟩
  have HO0 : Hid (W0.ownsRow w1.heap.size 38 1 (.slice (some ⟨w1.heap.size, 0, none⟩) l.length l.length) l.length (List.replicate l.length (.float .f64 0))) := Lib.hid (by rw [hW0]; exact own_make1 _ _ _ (by omega) _ _ (Nat.le_refl _))
  have hB0 := Lib.hid (show Below w1.heap.size w1 W0 by rw [hW0]; exact below_new _ _)
  have HW := Lib.hid (hB1.out.trans (hB0.out.mono (by have := hs1.out; omega)))
  have HS0 := Lib.hid (show w1.heap.size < W0.heap.size by rw [hW0]; simp)
  have hA0 := Lib.hid (hA1.out.below hB0.out)
  obtain ⟨_, y0, y1, yf⟩ := hA0.out
  clear yf
  rw [← hW0] at hmk
  clear hW0
  go_wp2_with fail
  refine (ones_slc _ l _ (HV.out.keep (keep_below HW.out)) hl (fun j hj => keep_below HW.out _ _ (HT.out j hj))).mono ?_
  rintro e w2 ⟨v2, rfl, hs2, hB2⟩
  rw [HON.out] at hs2
  obtain ⟨ao2, cap2, rfl, _, _, _, hc2⟩ := hs2.opened
  simp only [List.length_map]
  have HC := Lib.hid hc2
  have HO2 := Lib.hid (owns_below HO0.out hB2)
  have HB2 := Lib.hid (HW.out.trans (hB2.mono HW.out.size))
  have HS2 := Lib.hid (show w1.heap.size < w2.heap.size from (HO2.out.lt w1.heap.size rfl).2)
  have Hs1 := hs1
  clear hc2 hs2 hB2 y0 y1 hmk hs1
  go_wp2
  go_loopw [12] (fun i wr => ∃ k : Nat, k ≤ S.length ∧ i = .int .i64 k ∧ wr.ownsRow w1.heap.size 38 1 (.slice (some ⟨w1.heap.size, 0, none⟩) l.length l.length) l.length (marked (.float .f64 0) (.float .f64 4607182418800017408) l.length (S.take k)) ∧ w2.grownBy wr (some w1.heap.size)) (fun i _ => S.length - (intOf i).toNat)
  case atStart => exact ⟨0, by omega, rfl, by rw [List.take_zero, marked_nil]; exact HO2.out, grown_refl _ _⟩
  case round =>
    obtain ⟨k, hk, rfl, hown, hgr⟩ := hrel
    have HO := Lib.hid hown
    have HG := Lib.hid hgr
    have HB := Lib.hid (HB2.out.grown hgr HB2.out.size (fun j hj => by cases hj; have := Hs1.out; omega))
    by_cases hlt : k < S.length
    · obtain ⟨b, off, rfl, hbb, hcl0⟩ := HC.out k (by rw [ints_len, List.length_map]; exact hlt)
      have hclk : wr.cell? ⟨b, off + k, none⟩ = some ((ints (S.map fun j : Nat => (j : Int)))[k]'(by rw [ints_len, List.length_map]; exact hlt)) := hgr.cell hcl0 (fun e => by have h1 := Option.some.inj e; have h2 := HS0.out; have h3 : W0.heap.size ≤ b := hbb; have h4 : b = w1.heap.size := h1; omega)
      rw [ints_get] at hclk
      simp only [List.getElem_map] at hclk
      have hj := HSL.out k hlt
      have HMT := Lib.hid (marked_take (.float .f64 0) (.float .f64 4607182418800017408) l.length S k hlt)
      obtain ⟨j, hjj⟩ : ∃ j, j = S[k]'hlt := ⟨_, rfl⟩
      rw [← hjj] at hclk hj HMT
      have hcw := owns_cell HO.out j (by rw [marked_len]; exact hj)
      have hfr := World.ownsRow.frozenAt HO.out j
      clear hown hgr hcl0 hjj hbb
      go_wp2
      go_roundw
      case rel =>
        refine ⟨k + 1, by omega, by go_num, ?_, grown_trans HG.out (grown_setCell _ ⟨w1.heap.size, j, none⟩ _)⟩
        have := (World.ownsRow.stored HO.out j (.float .f64 4607182418800017408)).1
        rwa [HMT.out] at this
      case measure => simp [intOf]; omega
    · have hkl : k = S.length := by omega
      have HK := Lib.hid hkl
      clear hown hgr hkl
      go_wp2
      go_ret
      refine ⟨_, rfl, ?_, HB.out⟩
      have := (Slc.owned HO.out).keep (Kept.refl _ _) (ok' := fun b => w.heap.size ≤ b) (fun b _ h => by have := Hs1.out; omega)
      rwa [HK.out, List.take_length, HAL.out] at this

set_option maxHeartbeats 1000000 in
theorem FlagsI_calls (v : Value) (l : List Bool) (w : World) (hv : IsBits w v l) (hl : l.length ≤ 1048576) (hT : TabAt w) :
    Calls Tryz.prog 79 #[v] w fun e w' => ∃ v, e = .returned v ∧ Slc w' (fun b => w.heap.size ≤ b) v l.length (ints (l.map flagZ)) ∧ Below w.heap.size w w' := by
  have HV := Lib.hid hv
  have HT := Lib.hid hT
  obtain ⟨ao, cap, rfl, _⟩ := hv.opened
  clear hv hT
  obtain ⟨K, hK⟩ : ∃ K, (l.length + 63) / 64 = K := ⟨_, rfl⟩
  rw [hK] at HV ⊢
  clear hK
  have HE : Hid ((ints (l.map flagZ)) = l.map fun b => if b then (.int .i64 1) else (.int .i64 0)) := Lib.hid (by simp only [ints, List.map_map]; apply List.map_congr_left; intro b _; cases b <;> rfl)
  rw [HE.out]
  obtain ⟨S, hS⟩ : ∃ S, S = (List.range l.length).filter (sq l) := ⟨_, rfl⟩
  have HON := Lib.hid (show onesTo (sq l) l.length = S.map fun j : Nat => (j : Int) by rw [hS]; rfl)
  have HSL := Lib.hid (show ∀ k (h : k < S.length), S[k]'h < l.length by subst hS; exact fun k h => ones_at l k h)
  have HAL := Lib.hid (show marked (.int .i64 0) (.int .i64 1) l.length S = l.map fun b => if b then (.int .i64 1) else (.int .i64 0) by rw [hS]; exact marked_all _ _ _)
  have hSm : S.length ≤ 1048576 := Nat.le_trans (by rw [hS]; simpa using List.length_filter_le (sq l) (List.range l.length)) hl
  clear hS
  have hmk := run_mkI1 l.length (by omega)
  have HM := Lib.hid hmk
  clear hmk
  go_enter Tryz.func79, Tryz.ntmps79
  go_wp2_with fail
  refine (len_calls _ l _ (HV.out.keep (keep_alloc _ _))).mono ?_
  rintro e w1 ⟨rfl, hB⟩
  have hA1 : Hid (At2 w1 w.heap.size (.int .i64 l.length) (.slice ao K cap)) := Lib.hid ((At2.new _ _ _ _).below hB)
  have hB1 : Hid (Below w.heap.size w w1) := Lib.hid ((below_new w (.cells #[.int .i64 l.length, .slice ao K cap] 78)).trans (hB.mono (by simp)))
  have hs1 : Hid (w.heap.size + 1 ≤ w1.heap.size) := Lib.hid (by have := hB.size; simpa using this)
  clear hB
  have hmk := HM.out w1
  obtain ⟨W0, hW0⟩ : ∃ W0, W0 = w1.alloc (.cells (zerosV (.int .i64 0) l.length) 2) := ⟨_, rfl⟩
  have HO0 : Hid (W0.ownsRow w1.heap.size 2 1 (.slice (some ⟨w1.heap.size, 0, none⟩) l.length l.length) l.length (List.replicate l.length (.int .i64 0))) := Lib.hid (by rw [hW0]; exact own_make1 _ _ _ (by omega) _ _ (Nat.le_refl _))
  have hB0 := Lib.hid (show Below w1.heap.size w1 W0 by rw [hW0]; exact below_new _ _)
  have HW := Lib.hid (hB1.out.trans (hB0.out.mono (by have := hs1.out; omega)))
  have HS0 := Lib.hid (show w1.heap.size < W0.heap.size by rw [hW0]; simp)
  have hA0 := Lib.hid (hA1.out.below hB0.out)
  obtain ⟨_, y0, y1, yf⟩ := hA0.out
  clear yf
  rw [← hW0] at hmk
  clear hW0
  go_wp2_with fail
  refine (ones_slc _ l _ (HV.out.keep (keep_below HW.out)) hl (fun j hj => keep_below HW.out _ _ (HT.out j hj))).mono ?_
  rintro e w2 ⟨v2, rfl, hs2, hB2⟩
  rw [HON.out] at hs2
  obtain ⟨ao2, cap2, rfl, _, _, _, hc2⟩ := hs2.opened
  simp only [List.length_map]
  have HC := Lib.hid hc2
  have HO2 := Lib.hid (owns_below HO0.out hB2)
  have HB2 := Lib.hid (HW.out.trans (hB2.mono HW.out.size))
  have HS2 := Lib.hid (show w1.heap.size < w2.heap.size from (HO2.out.lt w1.heap.size rfl).2)
  have Hs1 := hs1
  clear hc2 hs2 hB2 y0 y1 hmk hs1
  go_wp2
  go_loopw [12] (fun i wr => ∃ k : Nat, k ≤ S.length ∧ i = .int .i64 k ∧ wr.ownsRow w1.heap.size 2 1 (.slice (some ⟨w1.heap.size, 0, none⟩) l.length l.length) l.length (marked (.int .i64 0) (.int .i64 1) l.length (S.take k)) ∧ w2.grownBy wr (some w1.heap.size)) (fun i _ => S.length - (intOf i).toNat)
  case atStart => exact ⟨0, by omega, rfl, by rw [List.take_zero, marked_nil]; exact HO2.out, grown_refl _ _⟩
  case round =>
    obtain ⟨k, hk, rfl, hown, hgr⟩ := hrel
    have HO := Lib.hid hown
    have HG := Lib.hid hgr
    have HB := Lib.hid (HB2.out.grown hgr HB2.out.size (fun j hj => by cases hj; have := Hs1.out; omega))
    by_cases hlt : k < S.length
    · obtain ⟨b, off, rfl, hbb, hcl0⟩ := HC.out k (by rw [ints_len, List.length_map]; exact hlt)
      have hclk : wr.cell? ⟨b, off + k, none⟩ = some ((ints (S.map fun j : Nat => (j : Int)))[k]'(by rw [ints_len, List.length_map]; exact hlt)) := hgr.cell hcl0 (fun e => by have h1 := Option.some.inj e; have h2 := HS0.out; have h3 : W0.heap.size ≤ b := hbb; have h4 : b = w1.heap.size := h1; omega)
      rw [ints_get] at hclk
      simp only [List.getElem_map] at hclk
      have hj := HSL.out k hlt
      have HMT := Lib.hid (marked_take (.int .i64 0) (.int .i64 1) l.length S k hlt)
      obtain ⟨j, hjj⟩ : ∃ j, j = S[k]'hlt := ⟨_, rfl⟩
      rw [← hjj] at hclk hj HMT
      have hcw := owns_cell HO.out j (by rw [marked_len]; exact hj)
      have hfr := World.ownsRow.frozenAt HO.out j
      clear hown hgr hcl0 hjj hbb
      go_wp2
      go_roundw
      case rel =>
        refine ⟨k + 1, by omega, by go_num, ?_, grown_trans HG.out (grown_setCell _ ⟨w1.heap.size, j, none⟩ _)⟩
        have := (World.ownsRow.stored HO.out j (.int .i64 1)).1
        rwa [HMT.out] at this
      case measure => simp [intOf]; omega
    · have hkl : k = S.length := by omega
      have HK := Lib.hid hkl
      clear hown hgr hkl
      go_wp2
      go_ret
      refine ⟨_, rfl, ?_, HB.out⟩
      have := (Slc.owned HO.out).keep (Kept.refl _ _) (ok' := fun b => w.heap.size ≤ b) (fun b _ h => by have := Hs1.out; omega)
      rwa [HK.out, List.take_length, HAL.out] at this
end Go.Proofs.YtbfcdpabjailcaaGreatDoor

/- Package vec, walked: Floats. -/
namespace Go.Proofs.YtbfcdpabjailcaaGreatDoor
open Go.RowKit Fl
set_option linter.unusedVariables false
set_option maxRecDepth 100000


set_option maxHeartbeats 1000000 in
theorem vfloats_yes {ok : Nat → Prop} (v : Value) (l : List Nat) (w : World) (hv : Slc w ok v l.length (f64s l)) (hm : l.length ≤ 2000000) (hf : ∀ x ∈ l, Fnt x) :
    Calls Tryz.prog 49 #[v] w fun e w' => ∃ u, e = .returned (.tuple #[.agg #[u], .bool true]) ∧ IsV w' (fun b => w.heap.size ≤ b) u (.floats (l.map ze)) ∧ Below w.heap.size w w' := by
  have HF := Lib.hid hf
  obtain ⟨ao, cap, rfl, _, _, _, hc⟩ := hv.opened
  have HC := Lib.hid hc
  clear hv hc hf
  obtain ⟨xs, hxs⟩ : ∃ xs : List Value, xs = f64s (l.map ze) := ⟨_, rfl⟩
  have hxl : xs.length = l.length := by rw [hxs]; simp [f64s]
  have hget : ∀ k (h : k < xs.length) (h2 : k < l.length), ∃ x : Nat, x = l[k]'h2 ∧ xs[k]'h = .float .f64 (ze x) := by intro k h h2; refine ⟨_, rfl, ?_⟩; simp [hxs, f64s]
  have HX := Lib.hid hget
  have HXL := Lib.hid hxl
  have HXS := Lib.hid hxs
  have hst := run_store_float
  have hmk := run_mkF1 l.length (by omega) (w.alloc (.cells #[.nilIface] 29))
  clear hxs hget hxl
  obtain ⟨W0, hW0⟩ : ∃ W0, W0 = (w.alloc (.cells #[.nilIface] 29)).alloc (.cells (zerosV (.float .f64 0) l.length) 38) := ⟨_, rfl⟩
  have HO0 : Hid (W0.ownsRow (w.heap.size + 1) 38 1 (.slice (some ⟨w.heap.size + 1, 0, none⟩) l.length l.length) l.length (List.replicate l.length (.float .f64 0))) := Lib.hid (by
    have := own_make1 (.float .f64 0) 38 l.length (by omega) (w.alloc (.cells #[.nilIface] 29)) (w.heap.size + 1) (by simp)
    rw [hW0]; simpa using this)
  have HA := Lib.hid (show At1 W0 w.heap.size .nilIface by rw [hW0]; exact (At1.new _ _ _).below (below_new _ _))
  have HW := Lib.hid (show Below w.heap.size w W0 by rw [hW0]; exact (below_new _ _).alloc (by simp) _)
  go_enter Tryz.func49, Tryz.ntmps49
  go_wp2
  rw [← hW0]
  clear hW0 hmk
  go_loopw [14] (fun i wr => ∃ k : Nat, k ≤ l.length ∧ i = .int .i64 k ∧ wr.ownsRow (w.heap.size + 1) 38 1 (.slice (some ⟨w.heap.size + 1, 0, none⟩) l.length l.length) l.length (fillTo xs (.float .f64 0) k) ∧ W0.grownBy wr (some (w.heap.size + 1))) (fun i _ => l.length - (intOf i).toNat)
  case atStart => exact ⟨0, by omega, rfl, by rw [fillTo_zero, HXL.out]; exact HO0.out, grown_refl _ _⟩
  case round =>
    obtain ⟨k, hk, rfl, hown, hgr⟩ := hrel
    have HO := Lib.hid hown
    have HG := Lib.hid hgr
    have HB := Lib.hid (HW.out.grown hgr HW.out.size (fun j hj => by cases hj; omega))
    have hA2 := Lib.hid (HA.out.grown hgr (by simp))
    by_cases hlt : k < l.length
    · obtain ⟨b, off, rfl, _, hcl0⟩ := HC.out k (by rw [f64s_len]; exact hlt)
      have hcl := keep_below HB.out _ _ hcl0
      rw [f64s_get] at hcl
      obtain ⟨x, hx, hxk⟩ := HX.out k (by rw [HXL.out]; exact hlt) hlt
      have hcw := owns_cell HO.out k (by rw [fillTo_len _ _ _ (by rw [HXL.out]; exact hk), HXL.out]; exact hlt)
      have hfr := World.ownsRow.frozenAt HO.out k
      rw [← hx] at hcl
      have HXE := Lib.hid hx
      have HXK := Lib.hid hxk
      clear hown hgr hcl0 hxk hx
      have HFx := Lib.hid (HF.out x (by rw [HXE.out]; exact List.getElem_mem hlt))
      go_wp2_with fail
      refine (tidy_fin _ _ HFx.out).mono ?_
      rintro e w2 ⟨rfl, rfl⟩
      go_wp2
      go_roundw
      case rel =>
        refine ⟨k + 1, by omega, by go_num, ?_, grown_trans HG.out (grown_setCell _ ⟨w.heap.size + 1, k, none⟩ _)⟩
        have := (World.ownsRow.stored HO.out k (.float .f64 (ze x))).1
        rw [← HXK.out, fillTo_set] at this
        rw [← HXK.out]
        exact this
      case measure => simp [intOf]; omega
    · have hkl : k = l.length := by omega
      have HK := Lib.hid hkl
      obtain ⟨_, a0, af⟩ := hA2.out
      have af0 := af 0
      clear hown hgr hkl af
      go_wp2
      refine bodyPost_ret (v := .tuple #[.agg #[.iface 44 (.slice (some ⟨w.heap.size + 1, 0, none⟩) l.length l.length)], .bool true]) (by simp [results, Tryz.results49, go_sem, a0]) rfl ⟨_, rfl, ?_, below_set1 _ HB.out (Nat.le_refl _)⟩
      have := Slc.owned HO.out
      rw [HK.out, ← HXL.out, fillTo_all, HXL.out, HXS.out] at this
      have h2 := this.keep (Kept.setCell wr ⟨w.heap.size, 0, none⟩ (.iface 44 (.slice (some ⟨w.heap.size + 1, 0, none⟩) l.length l.length)) (by simp)) (ok' := fun b => w.heap.size ≤ b) (fun b _ h => by omega)
      have h3 := IsV.floats (l := l.map ze) (by rw [List.length_map]; exact h2)
      exact h3

set_option maxHeartbeats 1000000 in
theorem vfloats_no {ok : Nat → Prop} (v : Value) (l : List Nat) (w : World) (hv : Slc w ok v l.length (f64s l)) (hm : l.length ≤ 2000000) (hw : ∀ x ∈ l, x < 18446744073709551616) (hf : ∃ x ∈ l, ¬ Fnt x) :
    Calls Tryz.prog 49 #[v] w fun e w' => ∃ u, e = .returned (.tuple #[.agg #[u], .bool false]) ∧ IsV w' (fun b => w.heap.size ≤ b) u (.none) ∧ Below w.heap.size w w' := by
  have HF := Lib.hid hf
  have HWF := Lib.hid hw
  obtain ⟨ao, cap, rfl, _, _, _, hc⟩ := hv.opened
  have HC := Lib.hid hc
  clear hv hc hf hw
  obtain ⟨xs, hxs⟩ : ∃ xs : List Value, xs = f64s (l.map ze) := ⟨_, rfl⟩
  have hxl : xs.length = l.length := by rw [hxs]; simp [f64s]
  have hget : ∀ k (h : k < xs.length) (h2 : k < l.length), ∃ x : Nat, x = l[k]'h2 ∧ xs[k]'h = .float .f64 (ze x) := by intro k h h2; refine ⟨_, rfl, ?_⟩; simp [hxs, f64s]
  have HX := Lib.hid hget
  have HXL := Lib.hid hxl
  have HXS := Lib.hid hxs
  have hst := run_store_float
  have hmk := run_mkF1 l.length (by omega) (w.alloc (.cells #[.nilIface] 29))
  clear hxs hget hxl
  obtain ⟨W0, hW0⟩ : ∃ W0, W0 = (w.alloc (.cells #[.nilIface] 29)).alloc (.cells (zerosV (.float .f64 0) l.length) 38) := ⟨_, rfl⟩
  have HO0 : Hid (W0.ownsRow (w.heap.size + 1) 38 1 (.slice (some ⟨w.heap.size + 1, 0, none⟩) l.length l.length) l.length (List.replicate l.length (.float .f64 0))) := Lib.hid (by
    have := own_make1 (.float .f64 0) 38 l.length (by omega) (w.alloc (.cells #[.nilIface] 29)) (w.heap.size + 1) (by simp)
    rw [hW0]; simpa using this)
  have HA := Lib.hid (show At1 W0 w.heap.size .nilIface by rw [hW0]; exact (At1.new _ _ _).below (below_new _ _))
  have HW := Lib.hid (show Below w.heap.size w W0 by rw [hW0]; exact (below_new _ _).alloc (by simp) _)
  go_enter Tryz.func49, Tryz.ntmps49
  go_wp2
  rw [← hW0]
  clear hW0 hmk
  go_loopw [14] (fun i wr => ∃ k : Nat, k ≤ l.length ∧ i = .int .i64 k ∧ wr.ownsRow (w.heap.size + 1) 38 1 (.slice (some ⟨w.heap.size + 1, 0, none⟩) l.length l.length) l.length (fillTo xs (.float .f64 0) k) ∧ W0.grownBy wr (some (w.heap.size + 1)) ∧ ∀ x ∈ l.take k, Fnt x) (fun i _ => l.length - (intOf i).toNat)
  case atStart => exact ⟨0, by omega, rfl, by rw [fillTo_zero, HXL.out]; exact HO0.out, grown_refl _ _, by simp⟩
  case round =>
    obtain ⟨k, hk, rfl, hown, hgr, hall⟩ := hrel
    have HO := Lib.hid hown
    have HG := Lib.hid hgr
    have HL := Lib.hid hall
    clear hall
    have HB := Lib.hid (HW.out.grown hgr HW.out.size (fun j hj => by cases hj; omega))
    have hA2 := Lib.hid (HA.out.grown hgr (by simp))
    by_cases hlt : k < l.length
    · obtain ⟨b, off, rfl, _, hcl0⟩ := HC.out k (by rw [f64s_len]; exact hlt)
      have hcl := keep_below HB.out _ _ hcl0
      rw [f64s_get] at hcl
      obtain ⟨x, hx, hxk⟩ := HX.out k (by rw [HXL.out]; exact hlt) hlt
      have hcw := owns_cell HO.out k (by rw [fillTo_len _ _ _ (by rw [HXL.out]; exact hk), HXL.out]; exact hlt)
      have hfr := World.ownsRow.frozenAt HO.out k
      rw [← hx] at hcl
      have HXE := Lib.hid hx
      have HXK := Lib.hid hxk
      clear hown hgr hcl0 hxk hx
      by_cases hfx : Fnt x
      · have HFx := Lib.hid hfx
        have HN : Hid (∀ y ∈ l.take (k + 1), Fnt y) := Lib.hid (by
          intro y hy
          rw [List.take_succ_eq_append_getElem hlt, List.mem_append, List.mem_singleton] at hy
          rcases hy with hy | hy
          · exact HL.out y hy
          · rw [hy, ← HXE.out]; exact hfx)
        clear hfx
        go_wp2_with fail
        refine (tidy_fin _ _ HFx.out).mono ?_
        rintro e w2 ⟨rfl, rfl⟩
        go_wp2
        go_roundw
        case rel =>
          refine ⟨k + 1, by omega, by go_num, ?_, grown_trans HG.out (grown_setCell _ ⟨w.heap.size + 1, k, none⟩ _), HN.out⟩
          have := (World.ownsRow.stored HO.out k (.float .f64 (ze x))).1
          rw [← HXK.out, fillTo_set] at this
          rw [← HXK.out]
          exact this
        case measure => simp [intOf]; omega
      · have HFx := Lib.hid hfx
        have hwx := Lib.hid (HWF.out x (by rw [HXE.out]; exact List.getElem_mem hlt))
        obtain ⟨_, a0, af⟩ := hA2.out
        have af0 := af 0
        clear hfx af
        go_wp2_with fail
        refine (tidy_non _ _ hwx.out HFx.out).mono ?_
        rintro e w2 ⟨rfl, rfl⟩
        go_wp2
        exact bodyPost_ret (v := .tuple #[.agg #[.nilIface], .bool false]) (by simp [results, Tryz.results49, go_sem, a0]) rfl ⟨_, rfl, .none, below_set1 _ HB.out (Nat.le_refl _)⟩
    · have hkl : k = l.length := by omega
      obtain ⟨x, hx, hn⟩ := HF.out
      exact absurd (HL.out x (by rw [hkl, List.take_length]; exact hx)) hn
end Go.Proofs.YtbfcdpabjailcaaGreatDoor

/- Package vec, walked: Num, Whole, Char, Packed, Nums, Wholes, Text. -/
namespace Go.Proofs.YtbfcdpabjailcaaGreatDoor
open Go.RowKit
set_option linter.unusedVariables false
set_option maxRecDepth 100000

/-- The numbers of a vector; its whole numbers; its characters. -/
def VV.nums : VV → List Nat
  | .bits l => l.map flagW | .smalls l => l.map (floatOfInt .f64) | .ints l => l.map (floatOfInt .f64) | .floats l => l | _ => []
def VV.whs : VV → List Int
  | .bits l => l.map flagZ | .smalls l => l | .ints l => l | _ => []
def VV.isWh : VV → Bool
  | .bits _ => true | .smalls _ => true | .ints _ => true | _ => false
def VV.text : VV → List Int
  | .chars l => l | _ => []
def VV.packed : VV → List Bool
  | .bits l => l | _ => []
def VV.isBit : VV → Bool
  | .bits l => true | _ => false
/-- Of a size that fits, and its elements are of their types. -/
def VV.ok : VV → Prop
  | .none => True
  | .bits l => l.length ≤ 1048576
  | .smalls l => l.length ≤ 1048576 ∧ ∀ x ∈ l, -128 ≤ x ∧ x ≤ 127
  | .ints l => l.length ≤ 1048576
  | .floats l => l.length ≤ 1048576
  | .chars l => l.length ≤ 1048576
  | .boxes l => l.length ≤ 1048576 ∧ ∀ p ∈ l, p.1.length ≤ 1048576
theorem VV.ok_len {V : VV} (h : V.ok) : V.len ≤ 1048576 := by
  cases V <;> simp [VV.ok, VV.len] at * <;> first | exact h | exact h.1 | omega
/-- Element i of a list, d where there is none. -/
def atI {α : Type} (l : List α) (d : α) (i : Int) : α := if 0 ≤ i then l.getD i.toNat d else d
theorem atI_neg {α : Type} {l : List α} {d : α} {i : Int} (h : ¬ (0 ≤ i ∧ i < l.length)) : atI l d i = d := by
  unfold atI
  split
  · rw [List.getD_eq_getElem?_getD, List.getElem?_eq_none (by omega)]; rfl
  · rfl
theorem atI_nat {α : Type} {l : List α} {d : α} {k : Nat} (h : k < l.length) : atI l d (k : Int) = l[k] := by
  unfold atI
  rw [if_pos (by omega), Int.toNat_natCast, List.getD_eq_getElem?_getD, List.getElem?_eq_getElem h]; rfl
theorem has_yes {ok : Nat → Prop} (u : Value) (V : VV) (k : Nat) (w : World) (h : IsV w ok u V) (hk : k < V.len) : Calls Tryz.prog 101 #[.agg #[u], .int .i64 (k : Int)] w fun e w' => e = .returned (.bool true) ∧ Below w.heap.size w w' := by
  have e : (decide ((0 : Int) ≤ (k : Int)) && decide ((k : Int) < (V.len : Int))) = true := by simp; omega
  rw [← e]; exact has_calls u V k w h
theorem has_no {ok : Nat → Prop} (u : Value) (V : VV) (i : Int) (w : World) (h : IsV w ok u V) (hk : ¬ (0 ≤ i ∧ i < (V.len : Int))) : Calls Tryz.prog 101 #[.agg #[u], .int .i64 i] w fun e w' => e = .returned (.bool false) ∧ Below w.heap.size w w' := by
  have e : (decide ((0 : Int) ≤ i) && decide (i < (V.len : Int))) = false := by simp; omega
  rw [← e]; exact has_calls u V i w h
theorem flagv_calls (b : Bool) (w : World) : Calls Tryz.prog 103 #[.bool b] w fun e w' => e = .returned (.float .f64 (flagW b)) ∧ w = w' := flag_calls b w
theorem atI_some {α : Type} {l : List α} {d x : α} {k : Nat} (h : l[k]? = some x) : atI l d (k : Int) = x := by
  unfold atI
  rw [if_pos (by omega), Int.toNat_natCast, List.getD_eq_getElem?_getD, h]; rfl
theorem atI_map {α β : Type} {l : List α} {d : β} {x : α} {k : Nat} (f : α → β) (h : l[k]? = some x) : atI (l.map f) d (k : Int) = f x := atI_some (by rw [List.getElem?_map, h]; rfl)
theorem Slc.at_map {α : Type} {w : World} {ok : Nat → Prop} {s : Value} {l : List α} (f : α → Value) (h : Slc w ok s l.length (l.map f)) (k : Nat) (hk : k < l.length) :
    ∃ b off cap x, s = .slice (some ⟨b, off, none⟩) l.length cap ∧ l[k]? = some x ∧ w.cell? ⟨b, off + k, none⟩ = some (f x) := by
  obtain ⟨ao, cap, rfl, _, _, _, hc⟩ := h.opened
  obtain ⟨b, off, rfl, _, hcl⟩ := hc k (by simpa using hk)
  refine ⟨b, off, cap, l[k], rfl, List.getElem?_eq_getElem hk, ?_⟩
  rw [hcl]; simp
theorem sqI_some {l : List Bool} {k : Nat} {b : Bool} (h : l[k]? = some b) : sqI l (k : Int) = b := by
  rw [sqI, if_pos (by omega), Int.toNat_natCast, sq, h]; rfl
theorem VV.nums_len {i : Int} {V : VV} (h : ¬ (0 ≤ i ∧ i < (V.len : Int))) : atI V.nums 0 i = 0 := by
  cases V <;> first | (simp [VV.nums, atI]; done) | (exact atI_neg (by simp only [VV.nums, VV.len, List.length_map] at *; exact h))
set_option maxHeartbeats 2000000 in
theorem num_calls {ok : Nat → Prop} (u : Value) (V : VV) (i : Int) (w : World) (h : IsV w ok u V) : Calls Tryz.prog 73 #[.agg #[u], .int .i64 i] w fun e w' => e = .returned (.float .f64 (atI V.nums 0 i)) ∧ Below w.heap.size w w' := by
  have H := Lib.hid h
  by_cases hin : 0 ≤ i ∧ i < (V.len : Int)
  · obtain ⟨k, rfl⟩ := Int.eq_ofNat_of_zero_le hin.1
    have hk : k < V.len := by omega
    clear hin
    cases h with
    | none => exact absurd hk (by simp [VV.len])
    | @bits s l h hm =>
      have hb := Lib.hid (IsV.isBits h)
      obtain ⟨_, ao, cap, rfl, _⟩ := h
      have t0 := ta_Bits_Bits; have t1 := ta_Bits_slI8; have t2 := ta_Bits_slI64; have t3 := ta_Bits_slF; have t4 := ta_Bits_slI32; have t5 := ta_Bits_slA
      obtain ⟨bb, hx⟩ : ∃ x, l[k]? = some x := ⟨_, List.getElem?_eq_getElem hk⟩
      have HX := Lib.hid hx
      clear hx
      have HK := Lib.hid hk
      go_enter Tryz.func73, Tryz.ntmps73
      go_wp2_with fail
      refine (has_yes _ _ k _ (H.out.grow (below_new _ _)) HK.out).mono ?_
      rintro e w1 ⟨rfl, hB⟩
      obtain ⟨_, a0, _⟩ := (At1.new w _ 29).below hB
      have HB := Lib.hid ((below_new w _).trans (hB.mono (by simp <;> omega)))
      clear hB
      go_wp2_with fail
      refine (at_calls _ _ _ _ (hb.out.keep (keep_below (HB.out.alloc HB.out.size _))) hm).mono ?_
      rintro e w2 ⟨rfl, hB2⟩
      rw [sqI_some HX.out]
      have HB2 := Lib.hid ((HB.out.alloc HB.out.size _).trans (hB2.mono (by simp; have := HB.out.size; omega)))
      clear hB2
      go_wp2_with fail
      refine (flagv_calls _ _).mono ?_
      rintro e w3 ⟨rfl, rfl⟩
      go_wp2
      go_ret
      exact ⟨ret_f (by simp only [VV.nums]; exact (atI_map flagW HX.out).symm), HB2.out⟩
    | @smalls s l h =>
      have t0 := ta_slI8_Bits; have t1 := ta_slI8_slI8; have t2 := ta_slI8_slI64; have t3 := ta_slI8_slF; have t4 := ta_slI8_slI32; have t5 := ta_slI8_slA
      obtain ⟨b, off, cap, x, rfl, hx, hcl0⟩ := Slc.at_map (Value.int .i8) h k hk
      have HX := Lib.hid hx
      have HCL := Lib.hid hcl0
      clear hx hcl0
      have hcv : ∀ w, (convert 118 38 (.int .i8 x)).run Tryz.prog w = .ok (.float .f64 (floatOfInt .f64 x)) w := fun w => run_convert_int_float w 118 38 .i8 .f64 x (by kernel_rfl) (by kernel_rfl)
      have HK := Lib.hid hk
      go_enter Tryz.func73, Tryz.ntmps73
      go_wp2_with fail
      refine (has_yes _ _ k _ (H.out.grow (below_new _ _)) HK.out).mono ?_
      rintro e w1 ⟨rfl, hB⟩
      obtain ⟨_, a0, _⟩ := (At1.new w _ 29).below hB
      have HB := Lib.hid ((below_new w _).trans (hB.mono (by simp <;> omega)))
      clear hB
      have hcl := keep_below HB.out _ _ HCL.out
      have hk' := HK.out
      simp only [VV.len] at hk'
      go_wp2
      go_ret
      exact ⟨ret_f (by simp only [VV.nums]; exact (atI_map (floatOfInt .f64) HX.out).symm), HB.out⟩
    | @ints s l h =>
      have t0 := ta_slI64_Bits; have t1 := ta_slI64_slI8; have t2 := ta_slI64_slI64; have t3 := ta_slI64_slF; have t4 := ta_slI64_slI32; have t5 := ta_slI64_slA
      obtain ⟨b, off, cap, x, rfl, hx, hcl0⟩ := Slc.at_map (Value.int .i64) h k hk
      have HX := Lib.hid hx
      have HCL := Lib.hid hcl0
      clear hx hcl0
      have hcv : ∀ w, (convert 2 38 (.int .i64 x)).run Tryz.prog w = .ok (.float .f64 (floatOfInt .f64 x)) w := fun w => run_convert_int_float w 2 38 .i64 .f64 x (by kernel_rfl) (by kernel_rfl)
      have HK := Lib.hid hk
      go_enter Tryz.func73, Tryz.ntmps73
      go_wp2_with fail
      refine (has_yes _ _ k _ (H.out.grow (below_new _ _)) HK.out).mono ?_
      rintro e w1 ⟨rfl, hB⟩
      obtain ⟨_, a0, _⟩ := (At1.new w _ 29).below hB
      have HB := Lib.hid ((below_new w _).trans (hB.mono (by simp <;> omega)))
      clear hB
      have hcl := keep_below HB.out _ _ HCL.out
      have hk' := HK.out
      simp only [VV.len] at hk'
      go_wp2
      go_ret
      exact ⟨ret_f (by simp only [VV.nums]; exact (atI_map (floatOfInt .f64) HX.out).symm), HB.out⟩
    | @floats s l h =>
      have t0 := ta_slF_Bits; have t1 := ta_slF_slI8; have t2 := ta_slF_slI64; have t3 := ta_slF_slF; have t4 := ta_slF_slI32; have t5 := ta_slF_slA
      obtain ⟨b, off, cap, x, rfl, hx, hcl0⟩ := Slc.at_map (Value.float .f64) h k hk
      have HX := Lib.hid hx
      have HCL := Lib.hid hcl0
      clear hx hcl0
      have HK := Lib.hid hk
      go_enter Tryz.func73, Tryz.ntmps73
      go_wp2_with fail
      refine (has_yes _ _ k _ (H.out.grow (below_new _ _)) HK.out).mono ?_
      rintro e w1 ⟨rfl, hB⟩
      obtain ⟨_, a0, _⟩ := (At1.new w _ 29).below hB
      have HB := Lib.hid ((below_new w _).trans (hB.mono (by simp <;> omega)))
      clear hB
      have hcl := keep_below HB.out _ _ HCL.out
      have hk' := HK.out
      simp only [VV.len] at hk'
      go_wp2
      go_ret
      exact ⟨ret_f (by simp only [VV.nums]; exact (atI_some HX.out).symm), HB.out⟩
    | @chars s l h =>
      obtain ⟨ao, cap, rfl, _, _, _, hc⟩ := h.opened
      have t0 := ta_slI32_Bits; have t1 := ta_slI32_slI8; have t2 := ta_slI32_slI64; have t3 := ta_slI32_slF; have t4 := ta_slI32_slI32; have t5 := ta_slI32_slA
      have HK := Lib.hid hk
      go_enter Tryz.func73, Tryz.ntmps73
      go_wp2_with fail
      refine (has_yes _ _ k _ (H.out.grow (below_new _ _)) HK.out).mono ?_
      rintro e w1 ⟨rfl, hB⟩
      obtain ⟨_, a0, _⟩ := (At1.new w _ 29).below hB
      have HB := Lib.hid ((below_new w _).trans (hB.mono (by simp <;> omega)))
      clear hB
      go_wp2
      go_ret
      exact ⟨ret_f (by simp [VV.nums, atI]), HB.out⟩
    | @boxes ao cap l f g h1 h2 hc hs hv =>
      have t0 := ta_slA_Bits; have t1 := ta_slA_slI8; have t2 := ta_slA_slI64; have t3 := ta_slA_slF; have t4 := ta_slA_slI32; have t5 := ta_slA_slA
      have HK := Lib.hid hk
      go_enter Tryz.func73, Tryz.ntmps73
      go_wp2_with fail
      refine (has_yes _ _ k _ (H.out.grow (below_new _ _)) HK.out).mono ?_
      rintro e w1 ⟨rfl, hB⟩
      obtain ⟨_, a0, _⟩ := (At1.new w _ 29).below hB
      have HB := Lib.hid ((below_new w _).trans (hB.mono (by simp <;> omega)))
      clear hB
      go_wp2
      go_ret
      exact ⟨ret_f (by simp [VV.nums, atI]), HB.out⟩
  · have HN := Lib.hid hin
    clear h hin
    go_enter Tryz.func73, Tryz.ntmps73
    go_wp2_with fail
    refine (has_no _ _ i _ (H.out.grow (below_new _ _)) HN.out).mono ?_
    rintro e w1 ⟨rfl, hB⟩
    have HB := Lib.hid ((below_new w (.cells #[u] 29)).trans (hB.mono (by simp <;> omega)))
    clear hB
    go_wp2
    go_ret
    exact ⟨ret_f (VV.nums_len HN.out).symm, HB.out⟩

end Go.Proofs.YtbfcdpabjailcaaGreatDoor

/- Package vec, walked: Char, Packed, Nums, Wholes, Text. -/
namespace Go.Proofs.YtbfcdpabjailcaaGreatDoor
open Go.RowKit
set_option linter.unusedVariables false
set_option maxRecDepth 100000

theorem isBits_empty (w : World) : IsBits w (.agg #[.int .i64 0, .slice none 0 0]) [] := ⟨_, rfl, rfl, none, 0, rfl, fun i hi => absurd hi (by simp [words, bws, u64s])⟩

set_option maxHeartbeats 2000000 in
theorem vnums_calls {ok : Nat → Prop} (u : Value) (V : VV) (w : World) (h : IsV w ok u V) (hok : V.ok) (hT : TabAt w) : Calls Tryz.prog 109 #[.agg #[u]] w fun e w' => ∃ v, e = .returned v ∧ Slc w' (fun b => w.heap.size ≤ b) v V.nums.length (f64s V.nums) ∧ Below w.heap.size w w' := by
  have HT := Lib.hid hT
  clear hT
  cases h with
  | none =>
    have t0 := ta_nil_Bits; have t1 := ta_nil_slI8; have t2 := ta_nil_slI64; have t3 := ta_nil_slF; have t4 := ta_nil_slI32; have t5 := ta_nil_slA
    go_enter Tryz.func109, Tryz.ntmps109
    go_wp2
    go_ret
    exact ⟨_, rfl, Slc.nil _ _, below_new _ _⟩
  | @bits s l h hm =>
    have hb := Lib.hid (IsV.isBits h)
    obtain ⟨_, ao, cap, rfl, _⟩ := h
    have t0 := ta_Bits_Bits; have t1 := ta_Bits_slI8; have t2 := ta_Bits_slI64; have t3 := ta_Bits_slF; have t4 := ta_Bits_slI32; have t5 := ta_Bits_slA
    go_enter Tryz.func109, Tryz.ntmps109
    go_wp2_with fail
    refine (FlagsF_calls _ _ _ (hb.out.keep (keep_below ((below_new _ _).alloc (by simp) _))) hm (fun j hj => keep_below ((below_new _ _).alloc (by simp) _) _ _ (HT.out j hj))).mono ?_
    rintro e w1 ⟨v1, rfl, hs, hB⟩
    have HS1 := Lib.hid (hs.keep (Kept.refl _ _) (ok' := fun b => w.heap.size ≤ b) (fun b _ h => by simp at h; omega))
    have HB := Lib.hid (((below_new w _).alloc (by simp) _).trans (hB.mono (by simp <;> omega)))
    clear hs hB
    go_wp2
    go_ret
    exact ⟨v1, rfl, by have := HS1.out; simpa only [VV.nums, List.length_map] using this, HB.out⟩
  | @smalls s l h =>
    have HS := Lib.hid h
    obtain ⟨ao, cap, rfl, _, _, _, hc⟩ := h.opened
    clear h hc
    have t0 := ta_slI8_Bits; have t1 := ta_slI8_slI8; have t2 := ta_slI8_slI64; have t3 := ta_slI8_slF; have t4 := ta_slI8_slI32; have t5 := ta_slI8_slA
    go_enter Tryz.func109, Tryz.ntmps109
    go_wp2_with fail
    refine (ConvFI8_calls _ _ _ (HS.out.below (below_new _ _)) (Nat.le_trans hok.1 (by omega))).mono ?_
    rintro e w1 ⟨v1, rfl, hs, hB⟩
    have HS1 := Lib.hid (hs.keep (Kept.refl _ _) (ok' := fun b => w.heap.size ≤ b) (fun b _ h => by simp at h; omega))
    have HB := Lib.hid ((below_new w _).trans (hB.mono (by simp <;> omega)))
    clear hs hB
    go_wp2
    go_ret
    exact ⟨v1, rfl, by have := HS1.out; simpa only [VV.nums, List.length_map] using this, HB.out⟩
  | @ints s l h =>
    have HS := Lib.hid h
    obtain ⟨ao, cap, rfl, _, _, _, hc⟩ := h.opened
    clear h hc
    have t0 := ta_slI64_Bits; have t1 := ta_slI64_slI8; have t2 := ta_slI64_slI64; have t3 := ta_slI64_slF; have t4 := ta_slI64_slI32; have t5 := ta_slI64_slA
    go_enter Tryz.func109, Tryz.ntmps109
    go_wp2_with fail
    refine (ConvFI_calls _ _ _ (HS.out.below (below_new _ _)) (Nat.le_trans hok (by omega))).mono ?_
    rintro e w1 ⟨v1, rfl, hs, hB⟩
    have HS1 := Lib.hid (hs.keep (Kept.refl _ _) (ok' := fun b => w.heap.size ≤ b) (fun b _ h => by simp at h; omega))
    have HB := Lib.hid ((below_new w _).trans (hB.mono (by simp <;> omega)))
    clear hs hB
    go_wp2
    go_ret
    exact ⟨v1, rfl, by have := HS1.out; simpa only [VV.nums, List.length_map] using this, HB.out⟩
  | @floats s l h =>
    have HS := Lib.hid h
    obtain ⟨ao, cap, rfl, _, _, _, hc⟩ := h.opened
    clear h hc
    have t0 := ta_slF_Bits; have t1 := ta_slF_slI8; have t2 := ta_slF_slI64; have t3 := ta_slF_slF; have t4 := ta_slF_slI32; have t5 := ta_slF_slA
    go_enter Tryz.func109, Tryz.ntmps109
    go_wp2_with fail
    refine (CloneF_calls _ _ _ (HS.out.below (below_new _ _)) (Nat.le_trans hok (by omega))).mono ?_
    rintro e w1 ⟨v1, rfl, hs, hB⟩
    have HS1 := Lib.hid (hs.keep (Kept.refl _ _) (ok' := fun b => w.heap.size ≤ b) (fun b _ h => by simp at h; omega))
    have HB := Lib.hid ((below_new w _).trans (hB.mono (by simp <;> omega)))
    clear hs hB
    go_wp2
    go_ret
    exact ⟨v1, rfl, by have := HS1.out; simpa only [VV.nums, List.length_map] using this, HB.out⟩
  | @chars s l h =>
    have HS := Lib.hid h
    obtain ⟨ao, cap, rfl, _, _, _, hc⟩ := h.opened
    clear h hc
    have t0 := ta_slI32_Bits; have t1 := ta_slI32_slI8; have t2 := ta_slI32_slI64; have t3 := ta_slI32_slF; have t4 := ta_slI32_slI32; have t5 := ta_slI32_slA
    go_enter Tryz.func109, Tryz.ntmps109
    go_wp2
    go_ret
    exact ⟨_, rfl, Slc.nil _ _, below_new _ _⟩
  | @boxes ao cap l f g h1 h2 hc hs hv =>
    have t0 := ta_slA_Bits; have t1 := ta_slA_slI8; have t2 := ta_slA_slI64; have t3 := ta_slA_slF; have t4 := ta_slA_slI32; have t5 := ta_slA_slA
    go_enter Tryz.func109, Tryz.ntmps109
    go_wp2
    go_ret
    exact ⟨_, rfl, Slc.nil _ _, below_new _ _⟩

set_option maxHeartbeats 2000000 in
theorem vwholes_calls {ok : Nat → Prop} (u : Value) (V : VV) (w : World) (h : IsV w ok u V) (hok : V.ok) (hT : TabAt w) : Calls Tryz.prog 55 #[.agg #[u]] w fun e w' => ∃ v, e = .returned (.tuple #[v, .bool V.isWh]) ∧ Slc w' (fun b => w.heap.size ≤ b) v V.whs.length (ints V.whs) ∧ Below w.heap.size w w' := by
  have HT := Lib.hid hT
  clear hT
  cases h with
  | none =>
    have t0 := ta_nil_Bits; have t1 := ta_nil_slI8; have t2 := ta_nil_slI64; have t3 := ta_nil_slF; have t4 := ta_nil_slI32; have t5 := ta_nil_slA
    go_enter Tryz.func55, Tryz.ntmps55
    go_wp2
    go_ret2
    exact ⟨_, rfl, Slc.nil _ _, below_new _ _⟩
  | @bits s l h hm =>
    have hb := Lib.hid (IsV.isBits h)
    obtain ⟨_, ao, cap, rfl, _⟩ := h
    have t0 := ta_Bits_Bits; have t1 := ta_Bits_slI8; have t2 := ta_Bits_slI64; have t3 := ta_Bits_slF; have t4 := ta_Bits_slI32; have t5 := ta_Bits_slA
    go_enter Tryz.func55, Tryz.ntmps55
    go_wp2_with fail
    refine (FlagsI_calls _ _ _ (hb.out.keep (keep_below ((below_new _ _).alloc (by simp) _))) hm (fun j hj => keep_below ((below_new _ _).alloc (by simp) _) _ _ (HT.out j hj))).mono ?_
    rintro e w1 ⟨v1, rfl, hs, hB⟩
    have HS1 := Lib.hid (hs.keep (Kept.refl _ _) (ok' := fun b => w.heap.size ≤ b) (fun b _ h => by simp at h; omega))
    have HB := Lib.hid (((below_new w _).alloc (by simp) _).trans (hB.mono (by simp <;> omega)))
    clear hs hB
    go_wp2
    go_ret2
    exact ⟨v1, rfl, by have := HS1.out; simpa only [VV.whs, List.length_map] using this, HB.out⟩
  | @smalls s l h =>
    have HS := Lib.hid h
    obtain ⟨ao, cap, rfl, _, _, _, hc⟩ := h.opened
    clear h hc
    have t0 := ta_slI8_Bits; have t1 := ta_slI8_slI8; have t2 := ta_slI8_slI64; have t3 := ta_slI8_slF; have t4 := ta_slI8_slI32; have t5 := ta_slI8_slA
    go_enter Tryz.func55, Tryz.ntmps55
    go_wp2_with fail
    refine (ConvII_calls _ _ _ (HS.out.below (below_new _ _)) (Nat.le_trans hok.1 (by omega)) hok.2).mono ?_
    rintro e w1 ⟨v1, rfl, hs, hB⟩
    have HS1 := Lib.hid (hs.keep (Kept.refl _ _) (ok' := fun b => w.heap.size ≤ b) (fun b _ h => by simp at h; omega))
    have HB := Lib.hid ((below_new w _).trans (hB.mono (by simp <;> omega)))
    clear hs hB
    go_wp2
    go_ret2
    exact ⟨v1, rfl, by have := HS1.out; simpa only [VV.whs, List.length_map] using this, HB.out⟩
  | @ints s l h =>
    have HS := Lib.hid h
    obtain ⟨ao, cap, rfl, _, _, _, hc⟩ := h.opened
    clear h hc
    have t0 := ta_slI64_Bits; have t1 := ta_slI64_slI8; have t2 := ta_slI64_slI64; have t3 := ta_slI64_slF; have t4 := ta_slI64_slI32; have t5 := ta_slI64_slA
    go_enter Tryz.func55, Tryz.ntmps55
    go_wp2_with fail
    refine (CloneI64_calls _ _ _ (HS.out.below (below_new _ _)) (Nat.le_trans hok (by omega))).mono ?_
    rintro e w1 ⟨v1, rfl, hs, hB⟩
    have HS1 := Lib.hid (hs.keep (Kept.refl _ _) (ok' := fun b => w.heap.size ≤ b) (fun b _ h => by simp at h; omega))
    have HB := Lib.hid ((below_new w _).trans (hB.mono (by simp <;> omega)))
    clear hs hB
    go_wp2
    go_ret2
    exact ⟨v1, rfl, by have := HS1.out; simpa only [VV.whs, List.length_map] using this, HB.out⟩
  | @floats s l h =>
    have HS := Lib.hid h
    obtain ⟨ao, cap, rfl, _, _, _, hc⟩ := h.opened
    clear h hc
    have t0 := ta_slF_Bits; have t1 := ta_slF_slI8; have t2 := ta_slF_slI64; have t3 := ta_slF_slF; have t4 := ta_slF_slI32; have t5 := ta_slF_slA
    go_enter Tryz.func55, Tryz.ntmps55
    go_wp2
    go_ret2
    exact ⟨_, rfl, Slc.nil _ _, below_new _ _⟩
  | @chars s l h =>
    have HS := Lib.hid h
    obtain ⟨ao, cap, rfl, _, _, _, hc⟩ := h.opened
    clear h hc
    have t0 := ta_slI32_Bits; have t1 := ta_slI32_slI8; have t2 := ta_slI32_slI64; have t3 := ta_slI32_slF; have t4 := ta_slI32_slI32; have t5 := ta_slI32_slA
    go_enter Tryz.func55, Tryz.ntmps55
    go_wp2
    go_ret2
    exact ⟨_, rfl, Slc.nil _ _, below_new _ _⟩
  | @boxes ao cap l f g h1 h2 hc hs hv =>
    have t0 := ta_slA_Bits; have t1 := ta_slA_slI8; have t2 := ta_slA_slI64; have t3 := ta_slA_slF; have t4 := ta_slA_slI32; have t5 := ta_slA_slA
    go_enter Tryz.func55, Tryz.ntmps55
    go_wp2
    go_ret2
    exact ⟨_, rfl, Slc.nil _ _, below_new _ _⟩

set_option maxHeartbeats 2000000 in
theorem vpacked_calls {ok : Nat → Prop} (u : Value) (V : VV) (w : World) (h : IsV w ok u V) : Calls Tryz.prog 66 #[.agg #[u]] w fun e w' => ∃ v, e = .returned (.tuple #[v, .bool V.isBit]) ∧ IsBits w' v V.packed ∧ Below w.heap.size w w' := by
  cases h with
  | none =>
    have t0 := ta_nil_Bits; have t1 := ta_nil_slI8; have t2 := ta_nil_slI64; have t3 := ta_nil_slF; have t4 := ta_nil_slI32; have t5 := ta_nil_slA
    go_enter Tryz.func66, Tryz.ntmps66
    go_wp2
    refine bodyPost_ret (v := .tuple #[.agg #[.int .i64 0, .slice none 0 0], .bool false]) (by simp [results, Tryz.results66, go_sem]) rfl ⟨_, rfl, isBits_empty _, ?_⟩
    exact ((below_new w _).alloc (by simp) _).alloc (by simp <;> omega) _
  | @bits s l h hm =>
    have hb := Lib.hid (IsV.isBits h)
    obtain ⟨_, ao, cap, rfl, _⟩ := h
    have t0 := ta_Bits_Bits; have t1 := ta_Bits_slI8; have t2 := ta_Bits_slI64; have t3 := ta_Bits_slF; have t4 := ta_Bits_slI32; have t5 := ta_Bits_slA
    go_enter Tryz.func66, Tryz.ntmps66
    go_wp2
    have hB := Lib.hid (((below_new w (.cells #[.iface 78 (.agg #[.int .i64 l.length, .slice ao ((l.length + 63) / 64) cap])] 29)).alloc (by simp) (.cells #[.int .i64 l.length, .slice ao ((l.length + 63) / 64) cap] 78)).alloc (by simp <;> omega) (.cells #[.int .i64 l.length, .slice ao ((l.length + 63) / 64) cap] 78))
    refine bodyPost_ret (v := .tuple #[.agg #[.int .i64 l.length, .slice ao ((l.length + 63) / 64) cap], .bool true]) (by simp [results, Tryz.results66, go_sem]) rfl ⟨_, rfl, hb.out.keep (keep_below ?_), ?_⟩
    all_goals exact hB.out
  | @smalls s l h =>
    have HS := Lib.hid h
    obtain ⟨ao, cap, rfl, _, _, _, hc⟩ := h.opened
    clear h hc
    have t0 := ta_slI8_Bits; have t1 := ta_slI8_slI8; have t2 := ta_slI8_slI64; have t3 := ta_slI8_slF; have t4 := ta_slI8_slI32; have t5 := ta_slI8_slA
    go_enter Tryz.func66, Tryz.ntmps66
    go_wp2
    refine bodyPost_ret (v := .tuple #[.agg #[.int .i64 0, .slice none 0 0], .bool false]) (by simp [results, Tryz.results66, go_sem]) rfl ⟨_, rfl, isBits_empty _, ?_⟩
    exact ((below_new w _).alloc (by simp) _).alloc (by simp <;> omega) _
  | @ints s l h =>
    have HS := Lib.hid h
    obtain ⟨ao, cap, rfl, _, _, _, hc⟩ := h.opened
    clear h hc
    have t0 := ta_slI64_Bits; have t1 := ta_slI64_slI8; have t2 := ta_slI64_slI64; have t3 := ta_slI64_slF; have t4 := ta_slI64_slI32; have t5 := ta_slI64_slA
    go_enter Tryz.func66, Tryz.ntmps66
    go_wp2
    refine bodyPost_ret (v := .tuple #[.agg #[.int .i64 0, .slice none 0 0], .bool false]) (by simp [results, Tryz.results66, go_sem]) rfl ⟨_, rfl, isBits_empty _, ?_⟩
    exact ((below_new w _).alloc (by simp) _).alloc (by simp <;> omega) _
  | @floats s l h =>
    have HS := Lib.hid h
    obtain ⟨ao, cap, rfl, _, _, _, hc⟩ := h.opened
    clear h hc
    have t0 := ta_slF_Bits; have t1 := ta_slF_slI8; have t2 := ta_slF_slI64; have t3 := ta_slF_slF; have t4 := ta_slF_slI32; have t5 := ta_slF_slA
    go_enter Tryz.func66, Tryz.ntmps66
    go_wp2
    refine bodyPost_ret (v := .tuple #[.agg #[.int .i64 0, .slice none 0 0], .bool false]) (by simp [results, Tryz.results66, go_sem]) rfl ⟨_, rfl, isBits_empty _, ?_⟩
    exact ((below_new w _).alloc (by simp) _).alloc (by simp <;> omega) _
  | @chars s l h =>
    have HS := Lib.hid h
    obtain ⟨ao, cap, rfl, _, _, _, hc⟩ := h.opened
    clear h hc
    have t0 := ta_slI32_Bits; have t1 := ta_slI32_slI8; have t2 := ta_slI32_slI64; have t3 := ta_slI32_slF; have t4 := ta_slI32_slI32; have t5 := ta_slI32_slA
    go_enter Tryz.func66, Tryz.ntmps66
    go_wp2
    refine bodyPost_ret (v := .tuple #[.agg #[.int .i64 0, .slice none 0 0], .bool false]) (by simp [results, Tryz.results66, go_sem]) rfl ⟨_, rfl, isBits_empty _, ?_⟩
    exact ((below_new w _).alloc (by simp) _).alloc (by simp <;> omega) _
  | @boxes ao cap l f g h1 h2 hc hs hv =>
    have t0 := ta_slA_Bits; have t1 := ta_slA_slI8; have t2 := ta_slA_slI64; have t3 := ta_slA_slF; have t4 := ta_slA_slI32; have t5 := ta_slA_slA
    go_enter Tryz.func66, Tryz.ntmps66
    go_wp2
    refine bodyPost_ret (v := .tuple #[.agg #[.int .i64 0, .slice none 0 0], .bool false]) (by simp [results, Tryz.results66, go_sem]) rfl ⟨_, rfl, isBits_empty _, ?_⟩
    exact ((below_new w _).alloc (by simp) _).alloc (by simp <;> omega) _

set_option maxHeartbeats 2000000 in
theorem vchar_calls {ok : Nat → Prop} (u : Value) (V : VV) (i : Int) (w : World) (h : IsV w ok u V) : Calls Tryz.prog 71 #[.agg #[u], .int .i64 i] w fun e w' => e = .returned (.int .i32 (atI V.text 0 i)) ∧ Below w.heap.size w w' := by
  have H := Lib.hid h
  cases h with
  | none =>
    have t0 := ta_nil_Bits; have t1 := ta_nil_slI8; have t2 := ta_nil_slI64; have t3 := ta_nil_slF; have t4 := ta_nil_slI32; have t5 := ta_nil_slA
    go_enter Tryz.func71, Tryz.ntmps71
    go_wp2
    go_ret
    exact ⟨ret_i (by simp [VV.text, atI]), below_new _ _⟩
  | @bits s l h hm =>
    have hb := Lib.hid (IsV.isBits h)
    obtain ⟨_, ao, cap, rfl, _⟩ := h
    have t0 := ta_Bits_Bits; have t1 := ta_Bits_slI8; have t2 := ta_Bits_slI64; have t3 := ta_Bits_slF; have t4 := ta_Bits_slI32; have t5 := ta_Bits_slA
    go_enter Tryz.func71, Tryz.ntmps71
    go_wp2
    go_ret
    exact ⟨ret_i (by simp [VV.text, atI]), below_new _ _⟩
  | @smalls s l h =>
    have HS := Lib.hid h
    obtain ⟨ao, cap, rfl, _, _, _, hc⟩ := h.opened
    clear h hc
    have t0 := ta_slI8_Bits; have t1 := ta_slI8_slI8; have t2 := ta_slI8_slI64; have t3 := ta_slI8_slF; have t4 := ta_slI8_slI32; have t5 := ta_slI8_slA
    go_enter Tryz.func71, Tryz.ntmps71
    go_wp2
    go_ret
    exact ⟨ret_i (by simp [VV.text, atI]), below_new _ _⟩
  | @ints s l h =>
    have HS := Lib.hid h
    obtain ⟨ao, cap, rfl, _, _, _, hc⟩ := h.opened
    clear h hc
    have t0 := ta_slI64_Bits; have t1 := ta_slI64_slI8; have t2 := ta_slI64_slI64; have t3 := ta_slI64_slF; have t4 := ta_slI64_slI32; have t5 := ta_slI64_slA
    go_enter Tryz.func71, Tryz.ntmps71
    go_wp2
    go_ret
    exact ⟨ret_i (by simp [VV.text, atI]), below_new _ _⟩
  | @floats s l h =>
    have HS := Lib.hid h
    obtain ⟨ao, cap, rfl, _, _, _, hc⟩ := h.opened
    clear h hc
    have t0 := ta_slF_Bits; have t1 := ta_slF_slI8; have t2 := ta_slF_slI64; have t3 := ta_slF_slF; have t4 := ta_slF_slI32; have t5 := ta_slF_slA
    go_enter Tryz.func71, Tryz.ntmps71
    go_wp2
    go_ret
    exact ⟨ret_i (by simp [VV.text, atI]), below_new _ _⟩
  | @chars s l h =>
    by_cases hin : 0 ≤ i ∧ i < (l.length : Int)
    · obtain ⟨k, rfl⟩ := Int.eq_ofNat_of_zero_le hin.1
      have hk : k < l.length := by omega
      obtain ⟨b, off, cap, x, rfl, hx, hcl0⟩ := Slc.at_map (Value.int .i32) h k hk
      have HX := Lib.hid hx
      have HCL := Lib.hid hcl0
      have HK := Lib.hid hk
      clear hin hx hcl0 h
      have t0 := ta_slI32_Bits; have t1 := ta_slI32_slI8; have t2 := ta_slI32_slI64; have t3 := ta_slI32_slF; have t4 := ta_slI32_slI32; have t5 := ta_slI32_slA
      go_enter Tryz.func71, Tryz.ntmps71
      go_wp2_with fail
      refine (has_yes _ _ k _ (H.out.grow (below_new _ _)) HK.out).mono ?_
      rintro e w1 ⟨rfl, hB⟩
      have HB := Lib.hid ((below_new w _).trans (hB.mono (by simp <;> omega)))
      clear hB
      have hcl := keep_below HB.out _ _ HCL.out
      go_wp2
      go_ret
      exact ⟨ret_i (by simp only [VV.text]; exact (atI_some HX.out).symm), HB.out⟩
    · have HN := Lib.hid hin
      obtain ⟨ao, cap, rfl, _⟩ := h.opened
      clear hin h
      have t0 := ta_slI32_Bits; have t1 := ta_slI32_slI8; have t2 := ta_slI32_slI64; have t3 := ta_slI32_slF; have t4 := ta_slI32_slI32; have t5 := ta_slI32_slA
      go_enter Tryz.func71, Tryz.ntmps71
      go_wp2_with fail
      refine (has_no _ _ i _ (H.out.grow (below_new _ _)) HN.out).mono ?_
      rintro e w1 ⟨rfl, hB⟩
      have HB := Lib.hid ((below_new w _).trans (hB.mono (by simp <;> omega)))
      clear hB
      go_wp2
      go_ret
      exact ⟨ret_i (by simp only [VV.text]; exact (atI_neg HN.out).symm), HB.out⟩
  | @boxes ao cap l f g h1 h2 hc hs hv =>
    have t0 := ta_slA_Bits; have t1 := ta_slA_slI8; have t2 := ta_slA_slI64; have t3 := ta_slA_slF; have t4 := ta_slA_slI32; have t5 := ta_slA_slA
    go_enter Tryz.func71, Tryz.ntmps71
    go_wp2
    go_ret
    exact ⟨ret_i (by simp [VV.text, atI]), below_new _ _⟩
end Go.Proofs.YtbfcdpabjailcaaGreatDoor

/- Package vec, walked: clone. -/
namespace Go.Proofs.YtbfcdpabjailcaaGreatDoor
open Go.RowKit
set_option linter.unusedVariables false
set_option maxRecDepth 100000

def IsIface (u : Value) : Prop := u = .nilIface ∨ ∃ t x, u = .iface t x
theorem IsV.shape {w : World} {ok : Nat → Prop} {u : Value} {V : VV} (h : IsV w ok u V) : IsIface u := by cases h <;> first | exact .inl rfl | exact .inr ⟨_, _, rfl⟩

set_option maxHeartbeats 2000000 in
theorem aclone_calls {ok : Nat → Prop} (sh u : Value) (S : List Int) (w : World) (hs : Slc w ok sh S.length (ints S)) (hu : IsIface u) (hm : S.length ≤ 1048576) :
    Calls Tryz.prog 102 #[.agg #[sh, u]] w fun e w' => ∃ sh', e = .returned (.agg #[sh', u]) ∧ Slc w' (fun b => w.heap.size ≤ b) sh' S.length (ints S) ∧ Below w.heap.size w w' := by
  have HS := Lib.hid hs
  obtain ⟨ao, cap, rfl, _, _, _, _⟩ := hs.opened
  clear hs
  obtain ⟨W0, hW0⟩ : ∃ W0, W0 = (w.alloc (.cells #[.slice ao S.length cap, u] 31)).alloc (.cells #[.slice none 0 0, .nilIface] 31) := ⟨_, rfl⟩
  have HA := Lib.hid (show At2 W0 w.heap.size (.slice ao S.length cap) u by rw [hW0]; exact (At2.new _ _ _ _).alloc _)
  have HR := Lib.hid (show At2 W0 (w.heap.size + 1) (.slice none 0 0) .nilIface by rw [hW0]; have := At2.new (w.alloc (.cells #[.slice ao S.length cap, u] 31)) (.slice none 0 0) .nilIface 31; simpa using this)
  have HW := Lib.hid (show Below w.heap.size w W0 by rw [hW0]; exact (below_new _ _).alloc (by simp) _)
  have HZ := Lib.hid (show W0.heap.size = w.heap.size + 2 by rw [hW0]; simp)
  have HC := Lib.hid (show ∀ wx, Below W0.heap.size W0 wx → Calls Tryz.prog 47 #[.slice ao S.length cap] wx fun e w1 => ∃ v1, e = .returned v1 ∧ Slc w1 (fun b => w.heap.size + 2 ≤ b) v1 S.length (ints S) ∧ Below W0.heap.size W0 w1 from fun wx hx =>
    (CloneInt_calls _ S wx ((HS.out.below HW.out).below hx) (by omega)).mono fun e w1 ⟨v1, h1, h2, h3⟩ => ⟨v1, h1, h2.keep (Kept.refl _ _) (fun b _ h => by have := hx.size; have := HZ.out; omega), hx.trans (h3.mono hx.size)⟩)
  have hdr : Hid (Below W0.heap.size W0 W0.drew) := Lib.hid (Below.drewN' (Below.refl _ _) 1)
  rcases hu with rfl | ⟨t, x, rfl⟩
  all_goals
    go_enter Tryz.func102, Tryz.ntmps102
    go_wp2
    rw [← hW0]
    clear hW0
    obtain ⟨_, x0, x1, _⟩ := HA.out
    go_region_with ((first
      | (go_at_call 47; refine (HC.out _ hdr.out).mono ?_; rintro e w1 ⟨v1, rfl, hs1, hB⟩; have HS1 := Lib.hid hs1; have HB := Lib.hid hB; obtain ⟨ao1, cap1, rfl, _⟩ := hs1.opened; obtain ⟨_, y0, y1, _⟩ := HA.out.below HB.out; obtain ⟨_, z0, z1, zf⟩ := HR.out.below HB.out; have zf0 := zf 0; have zf1 := zf 1; clear hs1 hB zf)))
    all_goals
      go_wp2
      first
        | refine bodyPost_ret (v := .agg #[.slice ao1 S.length cap1, .nilIface]) (by simp [results, Tryz.results102, go_sem, z0, z1]) rfl ⟨_, rfl, ?_, ?_⟩
        | refine bodyPost_ret (v := .agg #[.slice ao1 S.length cap1, .iface t x]) (by simp [results, Tryz.results102, go_sem, z0, z1]) rfl ⟨_, rfl, ?_, ?_⟩
      · exact HS1.out.keep ((Kept.setCell _ _ _ (by simp <;> omega)).trans (Kept.setCell _ _ _ (by simp <;> omega))) (fun b _ h => by omega)
      · exact ((HW.out.trans (HB.out.mono HW.out.size)).setCell (Nat.le_succ _) _).setCell (Nat.le_succ _) _
end Go.Proofs.YtbfcdpabjailcaaGreatDoor

/- Package vec, walked: lists of arrays; clones. -/
namespace Go.Proofs.YtbfcdpabjailcaaGreatDoor
open Go.RowKit
set_option linter.unusedVariables false
set_option maxRecDepth 100000

/-- s is a slice of the arrays l. -/
def Arrs (w : World) (ok : Nat → Prop) (s : Value) (l : List (List Int × VV)) : Prop :=
  ∃ (ao : Option Addr) (cap : Nat) (f g : Nat → Value), s = .slice ao l.length cap ∧ l.length ≤ cap ∧ cap ≤ maxLen ∧
    (∀ i, i < l.length → ∃ b off, ao = some ⟨b, off, Option.none⟩ ∧ ok b ∧ w.cell? ⟨b, off + i * 2, Option.none⟩ = some (f i) ∧ w.cell? ⟨b, off + i * 2 + 1, Option.none⟩ = some (g i)) ∧
    (∀ i (h : i < l.length), Slc w ok (f i) (l[i]).1.length (ints (l[i]).1)) ∧ (∀ i (h : i < l.length), IsV w ok (g i) (l[i]).2)
theorem Arrs.keep {w w' : World} {ok ok' : Nat → Prop} {s : Value} {l : List (List Int × VV)} (hk : Kept ok w w') (hm : ∀ b, b < w.heap.size → ok b → ok' b) (h : Arrs w ok s l) : Arrs w' ok' s l := by
  obtain ⟨ao, cap, f, g, e, h1, h2, hc, hs, hv⟩ := h
  refine ⟨ao, cap, f, g, e, h1, h2, fun i hi => ?_, fun i hi => (hs i hi).keep hk hm, fun i hi => (hv i hi).keep hk hm⟩
  obtain ⟨b, off, e, hb, c1, c2⟩ := hc i hi
  exact ⟨b, off, e, hm b (World.block_lt_of_cell? w _ c1) hb, hk _ _ hb c1, hk _ _ hb c2⟩
theorem Arrs.grow {w w' : World} {ok : Nat → Prop} {s : Value} {l : List (List Int × VV)} (h : Arrs w ok s l) (hb : Below w.heap.size w w') : Arrs w' ok s l := h.keep (Kept.below hb) (fun _ _ h => h)
theorem Arrs.nil (w : World) (ok : Nat → Prop) : Arrs w ok (.slice Option.none 0 0) [] :=
  ⟨Option.none, 0, fun _ => undef, fun _ => undef, rfl, Nat.le_refl _, by unfold maxLen; omega, fun i h => absurd h (by simp), fun i h => absurd h (by simp), fun i h => absurd h (by simp)⟩
theorem Arrs.boxes {w : World} {ok : Nat → Prop} {s : Value} {l : List (List Int × VV)} (h : Arrs w ok s l) : IsV w ok (.iface 81 s) (.boxes l) := by
  obtain ⟨ao, cap, f, g, rfl, h1, h2, hc, hs, hv⟩ := h
  exact .boxes f g h1 h2 hc hs hv
/-- Cells of pairs. -/
def pairL (n : Nat) (A B : Nat → Value) : List Value := (List.range (n * 2)).map fun j => if j % 2 = 0 then A (j / 2) else B (j / 2)
def upd (A : Nat → Value) (k : Nat) (x : Value) : Nat → Value := fun i => if i = k then x else A i
theorem pairL_len (n : Nat) (A B : Nat → Value) : (pairL n A B).length = n * 2 := by simp [pairL]
theorem pairL_fst (n : Nat) (A B : Nat → Value) (k : Nat) (h : k * 2 < (pairL n A B).length) : (pairL n A B)[k * 2] = A k := by
  simp [pairL]
theorem pairL_snd (n : Nat) (A B : Nat → Value) (k : Nat) (h : k * 2 + 1 < (pairL n A B).length) : (pairL n A B)[k * 2 + 1] = B k := by
  have e1 : (k * 2 + 1) % 2 = 1 := by omega
  have e2 : (k * 2 + 1) / 2 = k := by omega
  simp [pairL, e1, e2]
theorem pairL_set1 (n : Nat) (A B : Nat → Value) (k : Nat) (x : Value) : (pairL n A B).set (k * 2) x = pairL n (upd A k x) B := by
  apply List.ext_getElem (by simp [pairL])
  intro j h1 h2
  rw [List.getElem_set]
  simp only [pairL, List.getElem_map, List.getElem_range, upd]
  by_cases e : k * 2 = j
  · subst e; simp
  · rw [if_neg e]
    by_cases e2 : j % 2 = 0
    · rw [if_pos e2, if_pos e2, if_neg (by omega)]
    · rw [if_neg e2, if_neg e2]
theorem pairL_set2 (n : Nat) (A B : Nat → Value) (k : Nat) (x : Value) : (pairL n A B).set (k * 2 + 1) x = pairL n A (upd B k x) := by
  apply List.ext_getElem (by simp [pairL])
  intro j h1 h2
  rw [List.getElem_set]
  simp only [pairL, List.getElem_map, List.getElem_range, upd]
  by_cases e : k * 2 + 1 = j
  · subst e
    have e1 : ¬ (k * 2 + 1) % 2 = 0 := by omega
    have e2 : (k * 2 + 1) / 2 = k := by omega
    simp [e2]
  · rw [if_neg e]
    by_cases e2 : j % 2 = 0
    · rw [if_pos e2, if_pos e2]
    · rw [if_neg e2, if_neg e2, if_neg (by omega)]
/-- The first k, then no interface. -/
def upTo (g : Nat → Value) (k : Nat) : Nat → Value := fun i => if i < k then g i else .nilIface
theorem upTo_upd (g : Nat → Value) (k : Nat) : upd (upTo g k) k (g k) = upTo g (k + 1) := by
  funext i
  simp only [upd, upTo]
  by_cases e : i = k
  · subst e; simp
  · rw [if_neg e]
    by_cases h : i < k
    · rw [if_pos h, if_pos (by omega)]
    · rw [if_neg h, if_neg (by omega)]
def zerosA (n : Nat) : Array Value := madeCells (Value.agg #[.slice Option.none 0 0, .nilIface]).cells (n * 2)
theorem zerosA_list (n : Nat) : (zerosA n).toList = pairL n (fun _ => .slice Option.none 0 0) (upTo (fun _ => .nilIface) 0) := by
  apply List.ext_getElem?
  intro j
  unfold zerosA
  rw [show (Value.agg #[.slice Option.none 0 0, .nilIface]).cells = #[.slice Option.none 0 0, .nilIface] from rfl]
  by_cases hj : j < n * 2
  · rcases Nat.mod_two_eq_zero_or_one j with e | e
    · simp [madeCells, pairL, upTo, hj, e]
    · simp [madeCells, pairL, upTo, hj, e]
  · simp [madeCells, pairL, hj]
theorem upTo_zero (g g' : Nat → Value) : upTo g 0 = upTo g' 0 := by funext i; simp [upTo]
theorem own_mkA (n : Nat) (hn : n ≤ 2000000) (w : World) (base : Nat) (hb : base ≤ w.heap.size) (g : Nat → Value) : (w.alloc (.cells (zerosA n) 31)).ownsRow base 31 2 (.slice (some ⟨w.heap.size, 0, Option.none⟩) n n) n (pairL n (fun _ => .slice Option.none 0 0) (upTo g 0)) := by
  have ho := World.ownsRow_lit (e := 31) (size := 2) w (zerosA n) n hb (by unfold maxLen; omega) (size_madeCells _ _)
  rw [zerosA_list, upTo_zero _ g] at ho
  exact ho
theorem run_mkA (n : Nat) (hn : n ≤ 2000000) (w : World) : (Instr.makeSlice 81 (.int .i64 (n : Int)) (.int .i64 (n : Int))).run Tryz.prog w = .ok (.slice (some ⟨w.heap.size, 0, Option.none⟩) n n) (w.alloc (.cells (zerosA n) 31)) := by
  obtain ⟨i0, hi, hz0, hz1, hz2⟩ := info_parts info_arr
  have hr := run_make (P := Tryz.prog) w 81 31 i0 _ Tryz.underlying81 hi hz0 .i64 .i64 n n (by omega) (Int.le_refl _) (by rw [hz2]; omega) (by omega)
  simp only [Int.toNat_natCast, hz1] at hr
  exact hr
theorem owns_below2 {w w' : World} {base size : Nat} {e : TypeId} {v : Value} {n : Nat} {xs : List Value} (h : w.ownsRow base e size v n xs) (hb : Below w.heap.size w w') : w'.ownsRow base e size v n xs :=
  World.ownsRow.kept (row := Option.none) h ⟨hb.os, hb.tape, hb.output, hb.size, fun k hk _ => hb.block k hk⟩ (by cases hv : v.ownBlock <;> simp)
theorem owns_cell2 {w : World} {base size : Nat} {e : TypeId} {g n cap : Nat} {xs : List Value} (h : w.ownsRow base e size (.slice (some ⟨g, 0, Option.none⟩) n cap) n xs) (i : Nat) (hi : i < xs.length) : w.cell? ⟨g, i, Option.none⟩ = some xs[i] := by
  rw [h.cellAt i (by have := h.1; omega), List.getElem?_eq_getElem hi]

set_option maxHeartbeats 4000000 in
theorem clones_calls {ok : Nat → Prop} (v : Value) (l : List (List Int × VV)) (w : World) (hv : Arrs w ok v l) (hm : l.length ≤ 1048576) (hs : ∀ p ∈ l, p.1.length ≤ 1048576) :
    Calls Tryz.prog 100 #[v] w fun e w' => ∃ v, e = .returned v ∧ Arrs w' (fun b => ok b ∨ w.heap.size ≤ b) v l ∧ Below w.heap.size w w' := by
  obtain ⟨ao, cap, f, g, rfl, h1, h2, hc, hsh, hvv⟩ := hv
  have HC := Lib.hid hc
  have HSH := Lib.hid hsh
  have HVV := Lib.hid hvv
  have HSL := Lib.hid hs
  clear hc hsh hvv hs h1 h2
  have hmk := run_mkA l.length (by omega) w
  obtain ⟨W0, hW0⟩ : ∃ W0, W0 = w.alloc (.cells (zerosA l.length) 31) := ⟨_, rfl⟩
  have HO0 := Lib.hid (show W0.ownsRow w.heap.size 31 2 (.slice (some ⟨w.heap.size, 0, Option.none⟩) l.length l.length) l.length (pairL l.length (fun _ => .slice Option.none 0 0) (upTo g 0)) by rw [hW0]; exact own_mkA _ (by omega) _ _ (Nat.le_refl _) g)
  have HW := Lib.hid (show Below w.heap.size w W0 by rw [hW0]; exact below_new _ _)
  go_enter Tryz.func100, Tryz.ntmps100
  go_wp2
  rw [← hW0]
  clear hW0 hmk
  go_loopw [11] (fun i wr => ∃ (k : Nat) (A : Nat → Value), k ≤ l.length ∧ i = .int .i64 k ∧ wr.ownsRow w.heap.size 31 2 (.slice (some ⟨w.heap.size, 0, Option.none⟩) l.length l.length) l.length (pairL l.length A (upTo g k)) ∧ (∀ i (h : i < l.length), i < k → Slc wr (fun b => w.heap.size < b) (A i) (l[i]).1.length (ints (l[i]).1)) ∧ W0.grownBy wr (some w.heap.size)) (fun i _ => l.length - (intOf i).toNat)
  case atStart => exact ⟨0, fun _ => .slice Option.none 0 0, by omega, rfl, HO0.out, fun i _ h => absurd h (by omega), grown_refl _ _⟩
  case round =>
    obtain ⟨k, A, hk, rfl, hown, hA, hgr⟩ := hrel
    have HO := Lib.hid hown
    have HG := Lib.hid hgr
    have HA := Lib.hid hA
    have HB := Lib.hid (HW.out.grown hgr HW.out.size (fun j hj => by cases hj; omega))
    have hgs := (hown.lt w.heap.size rfl).2
    by_cases hlt : k < l.length
    · obtain ⟨b, off, rfl, _, c1, c2⟩ := HC.out k hlt
      have d1 := keep_below HB.out _ _ c1
      have d2 := keep_below HB.out _ _ c2
      have HSk := Lib.hid ((HSH.out k hlt).below (HB.out.alloc HB.out.size (.cells #[f k, g k] 31)))
      have HLk := Lib.hid (HSL.out _ (List.getElem_mem hlt))
      have hshape := (HVV.out k hlt).shape
      obtain ⟨S, hS⟩ : ∃ S, S = (l[k]'hlt).1 := ⟨_, rfl⟩
      rw [← hS] at HSk HLk
      have HSe := Lib.hid hS
      obtain ⟨fk, hfk⟩ : ∃ fk, fk = f k := ⟨_, rfl⟩
      obtain ⟨gk, hgk⟩ : ∃ gk, gk = g k := ⟨_, rfl⟩
      rw [← hfk] at d1 HSk
      rw [← hgk] at d2 HSk hshape
      have HGK := Lib.hid hgk
      obtain ⟨aok, capk, rfl, _, _, _, _⟩ := HSk.out.opened
      have HU := Lib.hid hshape
      clear hS hfk hgk c1 c2 hown hA hgr
      unfold IsIface at hshape
      rcases hshape with rfl | ⟨t, x, rfl⟩
      all_goals
        go_wp2_with fail
        refine (aclone_calls _ _ S _ HSk.out HU.out HLk.out).mono ?_
        rintro e w2 ⟨sh', rfl, hs1, hB2⟩
        obtain ⟨ao1, cap1, rfl, _⟩ := hs1.opened
        have hBwr := Lib.hid ((below_new wr (.cells #[.slice aok S.length capk, _] 31)).trans (hB2.mono (by simp)))
        have HO2 := Lib.hid (owns_below2 HO.out hBwr.out)
        have HG2 := Lib.hid (grown_trans HG.out (grown_any (below_grown hBwr.out) _))
        have HS1 := Lib.hid (hs1.keep (Kept.refl _ _) (ok' := fun b => w.heap.size < b) (fun b _ h => by simp at h; omega))
        have HA2 := Lib.hid (fun i (h : i < l.length) (h2 : i < k) => (HA.out i h h2).below hBwr.out)
        have e1 := owns_cell2 HO2.out (k * 2) (by rw [pairL_len]; omega)
        have e2 := owns_cell2 HO2.out (k * 2 + 1) (by rw [pairL_len]; omega)
        have z1 := World.ownsRow.frozenAt HO2.out (k * 2)
        have z2 := World.ownsRow.frozenAt HO2.out (k * 2 + 1)
        clear hs1 hB2
        go_wp2
        go_roundw
        case rel =>
          refine ⟨k + 1, upd A k (.slice ao1 S.length cap1), by omega, by go_num, ?_, ?_, grown_trans (grown_trans HG2.out (grown_setCell _ ⟨w.heap.size, k * 2, Option.none⟩ _)) (grown_setCell _ ⟨w.heap.size, k * 2 + 1, Option.none⟩ _)⟩
          · have q1 := (World.ownsRow.stored HO2.out (k * 2) (.slice ao1 S.length cap1)).1
            have q2 := (World.ownsRow.stored q1 (k * 2 + 1) (g k)).1
            rw [pairL_set1, pairL_set2, upTo_upd] at q2
            rw [← HGK.out] at q2
            exact q2
          · intro i hi hik
            have kk : ∀ y, Kept (fun b => w.heap.size < b) w2 ((w2.setCell ⟨w.heap.size, k * 2, Option.none⟩ (.slice ao1 S.length cap1)).setCell ⟨w.heap.size, k * 2 + 1, Option.none⟩ y) := fun y => (Kept.setCell _ _ _ (by simp)).trans (Kept.setCell _ _ _ (by simp))
            by_cases e : i = k
            · subst e
              simp only [upd, if_true]
              rw [← HSe.out]
              exact HS1.out.keep (kk _) (fun _ _ h => h)
            · simp only [upd, if_neg e]
              exact (HA2.out i hi (by omega)).keep (kk _) (fun _ _ h => h)
        case measure => simp [intOf]; omega
    · have hkl : k = l.length := by omega
      have HK := Lib.hid hkl
      clear hown hA hgr hkl
      go_wp2
      go_ret
      refine ⟨_, rfl, ?_, HB.out⟩
      have hO := HO.out
      refine ⟨_, _, A, g, rfl, Nat.le_refl _, by unfold maxLen; omega, fun i hi => ⟨w.heap.size, 0, rfl, .inr (Nat.le_refl _), ?_, ?_⟩, fun i hi => ?_, fun i hi => ?_⟩
      · rw [Nat.zero_add, owns_cell2 hO (i * 2) (by rw [pairL_len]; omega), pairL_fst]
      · rw [Nat.zero_add, owns_cell2 hO (i * 2 + 1) (by rw [pairL_len]; omega), pairL_snd, upTo, if_pos (by omega)]
      · exact (HA.out i hi (by omega)).keep (Kept.refl _ _) (fun b _ h => .inr (Nat.le_of_lt h))
      · exact (HVV.out i hi).keep (Kept.below HB.out) (fun b _ h => .inl h)
theorem Arrs.go {w w' : World} {ok : Nat → Prop} {s : Value} {l : List (List Int × VV)} (h : Arrs w ok s l) (hB : Below w.heap.size w w') : Hid (Arrs w' ok s l) := Lib.hid (h.grow hB)
end Go.Proofs.YtbfcdpabjailcaaGreatDoor

/- Package vec, walked: Boxes, Box, Arrays, None. -/
namespace Go.Proofs.YtbfcdpabjailcaaGreatDoor
open Go.RowKit
set_option linter.unusedVariables false
set_option maxRecDepth 100000

theorem vboxes_calls {ok : Nat → Prop} (v : Value) (l : List (List Int × VV)) (w : World) (hv : Arrs w ok v l) (hm : l.length ≤ 1048576) (hs : ∀ p ∈ l, p.1.length ≤ 1048576) :
    Calls Tryz.prog 88 #[v] w fun e w' => ∃ u, e = .returned (.agg #[u]) ∧ IsV w' (fun b => (ok b ∧ b < w.heap.size) ∨ w.heap.size ≤ b) u (.boxes l) ∧ Below w.heap.size w w' := by
  have HV := Lib.hid (hv.keep (Kept.below (below_new w (.cells #[.nilIface] 29))) (ok' := fun b => ok b ∧ b < w.heap.size) (fun b h1 h2 => ⟨h2, h1⟩))
  obtain ⟨ao, cap, f, g, rfl, _⟩ := hv
  go_enter Tryz.func88, Tryz.ntmps88
  go_wp2_with fail
  refine (clones_calls _ l _ HV.out hm hs).mono ?_
  rintro e w1 ⟨v1, rfl, hs1, hB⟩
  obtain ⟨_, a0, af⟩ := (At1.new w .nilIface 29).below hB
  have af0 := af 0
  have HS := Lib.hid hs1
  have HB := Lib.hid ((below_new w (.cells #[.nilIface] 29)).trans (hB.mono (by simp)))
  clear hs1 hB af
  go_wp2
  refine bodyPost_ret (v := .agg #[.iface 81 v1]) (by simp [results, Tryz.results88, go_sem, a0]) rfl ⟨_, rfl, ?_, below_set1 _ HB.out (Nat.le_refl _)⟩
  refine (HS.out.keep (Kept.setCell _ _ _ ?_) ?_).boxes
  · simp
  · intro b _ h
    rcases h with h | h
    · exact .inl h
    · exact .inr (by simp at h; omega)

def VV.boxs : VV → List (List Int × VV)
  | .boxes l => l | _ => []
/-- sh, u are the array p. -/
def IsArr (w : World) (ok : Nat → Prop) (sh u : Value) (p : List Int × VV) : Prop := Slc w ok sh p.1.length (ints p.1) ∧ IsV w ok u p.2
theorem IsArr.none (w : World) (ok : Nat → Prop) : IsArr w ok (.slice Option.none 0 0) .nilIface ([], .none) := ⟨Slc.nil _ _, .none⟩
theorem IsV.arrs {w : World} {ok : Nat → Prop} {s : Value} {l : List (List Int × VV)} (h : IsV w ok (.iface 81 s) (.boxes l)) : Arrs w ok s l := by
  cases h with
  | boxes f g h1 h2 hc hs hv => exact ⟨_, _, f, g, rfl, h1, h2, hc, hs, hv⟩

set_option maxHeartbeats 2000000 in
theorem varrays_calls {ok : Nat → Prop} (u : Value) (V : VV) (w : World) (h : IsV w ok u V) (hok : V.ok) : Calls Tryz.prog 68 #[.agg #[u]] w fun e w' => ∃ v, e = .returned v ∧ Arrs w' (fun b => ok b ∨ w.heap.size ≤ b) v V.boxs ∧ Below w.heap.size w w' := by
  have H := Lib.hid h
  cases h with
  | none =>
    have t0 := ta_nil_Bits; have t1 := ta_nil_slI8; have t2 := ta_nil_slI64; have t3 := ta_nil_slF; have t4 := ta_nil_slI32; have t5 := ta_nil_slA
    go_enter Tryz.func68, Tryz.ntmps68
    go_wp2
    go_ret
    exact ⟨_, rfl, Arrs.nil _ _, below_new _ _⟩
  | @bits s l h hm =>
    have hb := Lib.hid (IsV.isBits h)
    obtain ⟨_, ao, cap, rfl, _⟩ := h
    have t0 := ta_Bits_Bits; have t1 := ta_Bits_slI8; have t2 := ta_Bits_slI64; have t3 := ta_Bits_slF; have t4 := ta_Bits_slI32; have t5 := ta_Bits_slA
    go_enter Tryz.func68, Tryz.ntmps68
    go_wp2
    go_ret
    exact ⟨_, rfl, Arrs.nil _ _, below_new _ _⟩
  | @smalls s l h =>
    obtain ⟨ao, cap, rfl, _, _, _, hc⟩ := h.opened
    clear h hc
    have t0 := ta_slI8_Bits; have t1 := ta_slI8_slI8; have t2 := ta_slI8_slI64; have t3 := ta_slI8_slF; have t4 := ta_slI8_slI32; have t5 := ta_slI8_slA
    go_enter Tryz.func68, Tryz.ntmps68
    go_wp2
    go_ret
    exact ⟨_, rfl, Arrs.nil _ _, below_new _ _⟩
  | @ints s l h =>
    obtain ⟨ao, cap, rfl, _, _, _, hc⟩ := h.opened
    clear h hc
    have t0 := ta_slI64_Bits; have t1 := ta_slI64_slI8; have t2 := ta_slI64_slI64; have t3 := ta_slI64_slF; have t4 := ta_slI64_slI32; have t5 := ta_slI64_slA
    go_enter Tryz.func68, Tryz.ntmps68
    go_wp2
    go_ret
    exact ⟨_, rfl, Arrs.nil _ _, below_new _ _⟩
  | @floats s l h =>
    obtain ⟨ao, cap, rfl, _, _, _, hc⟩ := h.opened
    clear h hc
    have t0 := ta_slF_Bits; have t1 := ta_slF_slI8; have t2 := ta_slF_slI64; have t3 := ta_slF_slF; have t4 := ta_slF_slI32; have t5 := ta_slF_slA
    go_enter Tryz.func68, Tryz.ntmps68
    go_wp2
    go_ret
    exact ⟨_, rfl, Arrs.nil _ _, below_new _ _⟩
  | @chars s l h =>
    obtain ⟨ao, cap, rfl, _, _, _, hc⟩ := h.opened
    clear h hc
    have t0 := ta_slI32_Bits; have t1 := ta_slI32_slI8; have t2 := ta_slI32_slI64; have t3 := ta_slI32_slF; have t4 := ta_slI32_slI32; have t5 := ta_slI32_slA
    go_enter Tryz.func68, Tryz.ntmps68
    go_wp2
    go_ret
    exact ⟨_, rfl, Arrs.nil _ _, below_new _ _⟩
  | @boxes ao cap l f g h1 h2 hc hs hv =>
    have t0 := ta_slA_Bits; have t1 := ta_slA_slI8; have t2 := ta_slA_slI64; have t3 := ta_slA_slF; have t4 := ta_slA_slI32; have t5 := ta_slA_slA
    have HA := Lib.hid H.out.arrs
    clear hc hs hv
    go_enter Tryz.func68, Tryz.ntmps68
    go_wp2_with fail
    refine (clones_calls _ l _ (HA.out.grow (below_new _ _)) hok.1 hok.2).mono ?_
    rintro e w1 ⟨v1, rfl, hs1, hB⟩
    have HS1 := Lib.hid (hs1.keep (Kept.refl _ _) (ok' := fun b => ok b ∨ w.heap.size ≤ b) (fun b _ h => by
      rcases h with h | h
      · exact .inl h
      · exact .inr (by simp at h; omega)))
    have HB := Lib.hid ((below_new w _).trans (hB.mono (by simp <;> omega)))
    clear hs1 hB
    go_wp2
    go_ret
    exact ⟨v1, rfl, HS1.out, HB.out⟩

set_option maxHeartbeats 2000000 in
theorem vbox_calls {ok : Nat → Prop} (u : Value) (V : VV) (i : Int) (w : World) (h : IsV w ok u V) (hok : V.ok) : Calls Tryz.prog 72 #[.agg #[u], .int .i64 i] w fun e w' => ∃ sh x, e = .returned (.agg #[sh, x]) ∧ IsArr w' (fun b => (ok b ∧ b < w.heap.size) ∨ w.heap.size ≤ b) sh x (atI V.boxs ([], .none) i) ∧ Below w.heap.size w w' := by
  have H := Lib.hid h
  cases h with
  | none =>
    have t0 := ta_nil_Bits; have t1 := ta_nil_slI8; have t2 := ta_nil_slI64; have t3 := ta_nil_slF; have t4 := ta_nil_slI32; have t5 := ta_nil_slA
    have hz : Hid (atI (α := List Int × VV) [] ([], .none) i = ([], .none)) := Lib.hid (by simp [atI])
    go_enter Tryz.func72, Tryz.ntmps72
    go_wp2
    refine bodyPost_ret (v := .agg #[.slice Option.none 0 0, .nilIface]) (by simp [results, Tryz.results72, go_sem]) rfl ⟨_, _, rfl, ?_, ?_⟩
    · simp only [VV.boxs]; rw [hz.out]; exact IsArr.none _ _
    · exact (below_new w _).alloc (by simp) _
  | @bits s l h hm =>
    have hb := Lib.hid (IsV.isBits h)
    obtain ⟨_, ao, cap, rfl, _⟩ := h
    have t0 := ta_Bits_Bits; have t1 := ta_Bits_slI8; have t2 := ta_Bits_slI64; have t3 := ta_Bits_slF; have t4 := ta_Bits_slI32; have t5 := ta_Bits_slA
    have hz : Hid (atI (α := List Int × VV) [] ([], .none) i = ([], .none)) := Lib.hid (by simp [atI])
    go_enter Tryz.func72, Tryz.ntmps72
    go_wp2
    refine bodyPost_ret (v := .agg #[.slice Option.none 0 0, .nilIface]) (by simp [results, Tryz.results72, go_sem]) rfl ⟨_, _, rfl, ?_, ?_⟩
    · simp only [VV.boxs]; rw [hz.out]; exact IsArr.none _ _
    · exact (below_new w _).alloc (by simp) _
  | @smalls s l h =>
    obtain ⟨ao, cap, rfl, _, _, _, hc⟩ := h.opened
    clear h hc
    have t0 := ta_slI8_Bits; have t1 := ta_slI8_slI8; have t2 := ta_slI8_slI64; have t3 := ta_slI8_slF; have t4 := ta_slI8_slI32; have t5 := ta_slI8_slA
    have hz : Hid (atI (α := List Int × VV) [] ([], .none) i = ([], .none)) := Lib.hid (by simp [atI])
    go_enter Tryz.func72, Tryz.ntmps72
    go_wp2
    refine bodyPost_ret (v := .agg #[.slice Option.none 0 0, .nilIface]) (by simp [results, Tryz.results72, go_sem]) rfl ⟨_, _, rfl, ?_, ?_⟩
    · simp only [VV.boxs]; rw [hz.out]; exact IsArr.none _ _
    · exact (below_new w _).alloc (by simp) _
  | @ints s l h =>
    obtain ⟨ao, cap, rfl, _, _, _, hc⟩ := h.opened
    clear h hc
    have t0 := ta_slI64_Bits; have t1 := ta_slI64_slI8; have t2 := ta_slI64_slI64; have t3 := ta_slI64_slF; have t4 := ta_slI64_slI32; have t5 := ta_slI64_slA
    have hz : Hid (atI (α := List Int × VV) [] ([], .none) i = ([], .none)) := Lib.hid (by simp [atI])
    go_enter Tryz.func72, Tryz.ntmps72
    go_wp2
    refine bodyPost_ret (v := .agg #[.slice Option.none 0 0, .nilIface]) (by simp [results, Tryz.results72, go_sem]) rfl ⟨_, _, rfl, ?_, ?_⟩
    · simp only [VV.boxs]; rw [hz.out]; exact IsArr.none _ _
    · exact (below_new w _).alloc (by simp) _
  | @floats s l h =>
    obtain ⟨ao, cap, rfl, _, _, _, hc⟩ := h.opened
    clear h hc
    have t0 := ta_slF_Bits; have t1 := ta_slF_slI8; have t2 := ta_slF_slI64; have t3 := ta_slF_slF; have t4 := ta_slF_slI32; have t5 := ta_slF_slA
    have hz : Hid (atI (α := List Int × VV) [] ([], .none) i = ([], .none)) := Lib.hid (by simp [atI])
    go_enter Tryz.func72, Tryz.ntmps72
    go_wp2
    refine bodyPost_ret (v := .agg #[.slice Option.none 0 0, .nilIface]) (by simp [results, Tryz.results72, go_sem]) rfl ⟨_, _, rfl, ?_, ?_⟩
    · simp only [VV.boxs]; rw [hz.out]; exact IsArr.none _ _
    · exact (below_new w _).alloc (by simp) _
  | @chars s l h =>
    obtain ⟨ao, cap, rfl, _, _, _, hc⟩ := h.opened
    clear h hc
    have t0 := ta_slI32_Bits; have t1 := ta_slI32_slI8; have t2 := ta_slI32_slI64; have t3 := ta_slI32_slF; have t4 := ta_slI32_slI32; have t5 := ta_slI32_slA
    have hz : Hid (atI (α := List Int × VV) [] ([], .none) i = ([], .none)) := Lib.hid (by simp [atI])
    go_enter Tryz.func72, Tryz.ntmps72
    go_wp2
    refine bodyPost_ret (v := .agg #[.slice Option.none 0 0, .nilIface]) (by simp [results, Tryz.results72, go_sem]) rfl ⟨_, _, rfl, ?_, ?_⟩
    · simp only [VV.boxs]; rw [hz.out]; exact IsArr.none _ _
    · exact (below_new w _).alloc (by simp) _
  | @boxes ao cap l f g h1 h2 hc hs hv =>
    have t0 := ta_slA_Bits; have t1 := ta_slA_slI8; have t2 := ta_slA_slI64; have t3 := ta_slA_slF; have t4 := ta_slA_slI32; have t5 := ta_slA_slA
    clear hs hv
    by_cases hin : 0 ≤ i ∧ i < (l.length : Int)
    · obtain ⟨k, rfl⟩ := Int.eq_ofNat_of_zero_le hin.1
      have hk : k < l.length := by omega
      have HA := Lib.hid H.out.lt.arrs
      obtain ⟨ao', cap', f', g', e', _, _, hc', hs', hv'⟩ := HA.out
      cases e'
      have HK := Lib.hid hk
      have hz : Hid (atI (α := List Int × VV) l ([], .none) (k : Int) = l[k]'hk) := Lib.hid (atI_nat hk)
      obtain ⟨b, off, rfl, _, c1, c2⟩ := hc' k hk
      have HSk := Lib.hid (hs' k hk)
      have HVk := Lib.hid (hv' k hk)
      have hshape := HVk.out.shape
      have HL := Lib.hid (hok.2 _ (List.getElem_mem hk))
      obtain ⟨p, hp⟩ : ∃ p, p = l[k]'hk := ⟨_, rfl⟩
      rw [← hp] at HSk HVk HL hz
      obtain ⟨fk, hfk⟩ : ∃ fk, fk = f' k := ⟨_, rfl⟩
      obtain ⟨gk, hgk⟩ : ∃ gk, gk = g' k := ⟨_, rfl⟩
      rw [← hfk] at c1 HSk
      rw [← hgk] at c2 HVk hshape
      obtain ⟨aok, capk, rfl, _⟩ := HSk.out.opened
      have HU := Lib.hid hshape
      unfold IsIface at hshape
      have C1 := Lib.hid c1
      have C2 := Lib.hid c2
      clear hc hc' hs' hv' hp hfk hgk c1 c2 hin hok
      rcases hshape with rfl | ⟨t, x, rfl⟩
      · go_enter Tryz.func72, Tryz.ntmps72
        go_wp2_with fail
        refine (has_yes _ _ k _ (H.out.grow ((below_new _ _).alloc (by simp) _)) HK.out).mono ?_
        rintro e w1 ⟨rfl, hB⟩
        have HB := Lib.hid (((below_new w _).alloc (by simp) _).trans (hB.mono (by simp <;> omega)))
        have HR := Lib.hid (((At2.new (w.alloc _) (.slice Option.none 0 0) .nilIface 31)).below hB)
        simp only [World.size_alloc] at HR
        clear hB
        have d1 := keep_below HB.out _ _ C1.out
        have d2 := keep_below HB.out _ _ C2.out
        go_wp2_with fail
        refine (aclone_calls _ _ p.1 _ (HSk.out.below HB.out) HU.out HL.out).mono ?_
        rintro e w2 ⟨sh', rfl, hs1, hB2⟩
        obtain ⟨ao1, cap1, rfl, _⟩ := hs1.opened
        obtain ⟨hl1, z0, z1, zf⟩ := HR.out.below hB2
        have zf0 := zf 0
        have zf1 := zf 1
        have hw1 := HR.out.1
        have HS1 := Lib.hid (hs1.keep (Kept.refl _ _) (ok' := fun b => w.heap.size + 1 < b) (fun b _ h => by have h' : w1.heap.size ≤ b := h; omega))
        have HB2 := Lib.hid (HB.out.trans (hB2.mono HB.out.size))
        clear hs1 hB2 zf
        go_wp2
        have HF := Lib.hid (show ∀ x y, Below w.heap.size w ((w2.setCell ⟨w.heap.size + 1, 0, Option.none⟩ x).setCell ⟨w.heap.size + 1, 1, Option.none⟩ y) from fun x y => (HB2.out.setCell (Nat.le_succ _) _).setCell (Nat.le_succ _) _)
        refine bodyPost_ret (v := .agg #[.slice ao1 p.1.length cap1, .nilIface]) (by simp [results, Tryz.results72, go_sem, z0, z1]) rfl ⟨_, _, rfl, ⟨?_, ?_⟩, HF.out _ _⟩
        · simp only [VV.boxs]
          rw [hz.out]
          exact HS1.out.keep ((Kept.setCell _ _ _ (by simp)).trans (Kept.setCell _ _ _ (by simp))) (fun b _ h => .inr (by omega))
        · simp only [VV.boxs]
          rw [hz.out]
          exact HVk.out.keep (Kept.below (HF.out _ _)) (fun b _ h => .inl h)
      · go_enter Tryz.func72, Tryz.ntmps72
        go_wp2_with fail
        refine (has_yes _ _ k _ (H.out.grow ((below_new _ _).alloc (by simp) _)) HK.out).mono ?_
        rintro e w1 ⟨rfl, hB⟩
        have HB := Lib.hid (((below_new w _).alloc (by simp) _).trans (hB.mono (by simp <;> omega)))
        have HR := Lib.hid (((At2.new (w.alloc _) (.slice Option.none 0 0) .nilIface 31)).below hB)
        simp only [World.size_alloc] at HR
        clear hB
        have d1 := keep_below HB.out _ _ C1.out
        have d2 := keep_below HB.out _ _ C2.out
        go_wp2_with fail
        refine (aclone_calls _ _ p.1 _ (HSk.out.below HB.out) HU.out HL.out).mono ?_
        rintro e w2 ⟨sh', rfl, hs1, hB2⟩
        obtain ⟨ao1, cap1, rfl, _⟩ := hs1.opened
        obtain ⟨hl1, z0, z1, zf⟩ := HR.out.below hB2
        have zf0 := zf 0
        have zf1 := zf 1
        have hw1 := HR.out.1
        have HS1 := Lib.hid (hs1.keep (Kept.refl _ _) (ok' := fun b => w.heap.size + 1 < b) (fun b _ h => by have h' : w1.heap.size ≤ b := h; omega))
        have HB2 := Lib.hid (HB.out.trans (hB2.mono HB.out.size))
        clear hs1 hB2 zf
        go_wp2
        have HF := Lib.hid (show ∀ x y, Below w.heap.size w ((w2.setCell ⟨w.heap.size + 1, 0, Option.none⟩ x).setCell ⟨w.heap.size + 1, 1, Option.none⟩ y) from fun x y => (HB2.out.setCell (Nat.le_succ _) _).setCell (Nat.le_succ _) _)
        refine bodyPost_ret (v := .agg #[.slice ao1 p.1.length cap1, .iface t x]) (by simp [results, Tryz.results72, go_sem, z0, z1]) rfl ⟨_, _, rfl, ⟨?_, ?_⟩, HF.out _ _⟩
        · simp only [VV.boxs]
          rw [hz.out]
          exact HS1.out.keep ((Kept.setCell _ _ _ (by simp)).trans (Kept.setCell _ _ _ (by simp))) (fun b _ h => .inr (by omega))
        · simp only [VV.boxs]
          rw [hz.out]
          exact HVk.out.keep (Kept.below (HF.out _ _)) (fun b _ h => .inl h)
    · have HN := Lib.hid hin
      have hz : Hid (atI (α := List Int × VV) l ([], .none) i = ([], .none)) := Lib.hid (atI_neg hin)
      clear hc hin
      go_enter Tryz.func72, Tryz.ntmps72
      go_wp2_with fail
      refine (has_no _ _ i _ (H.out.grow ((below_new _ _).alloc (by simp) _)) HN.out).mono ?_
      rintro e w1 ⟨rfl, hB⟩
      have HB := Lib.hid (((below_new w _).alloc (by simp) _).trans (hB.mono (by simp <;> omega)))
      have HR := Lib.hid (((At2.new (w.alloc _) (.slice Option.none 0 0) .nilIface 31)).below hB)
      simp only [World.size_alloc] at HR
      obtain ⟨_, z0, z1, zf⟩ := HR.out
      have zf0 := zf 0
      have zf1 := zf 1
      clear hB zf
      go_wp2
      refine bodyPost_ret (v := .agg #[.slice Option.none 0 0, .nilIface]) (by simp [results, Tryz.results72, go_sem, z0, z1]) rfl ⟨_, _, rfl, ?_, (HB.out.setCell (Nat.le_succ _) _).setCell (Nat.le_succ _) _⟩
      simp only [VV.boxs]
      rw [hz.out]
      exact IsArr.none _ _
end Go.Proofs.YtbfcdpabjailcaaGreatDoor

/- Package vec, walked: None; the reference's Runes, Same, Small. -/
namespace Go.Proofs.YtbfcdpabjailcaaGreatDoor
open Go.RowKit Fl
set_option linter.unusedVariables false
set_option maxRecDepth 100000

theorem vbits_exact (n : Int) (ao : Option Addr) (m cap : Nat) (w : World) :
    Calls Tryz.prog 82 #[.agg #[.int .i64 n, .slice ao m cap]] w fun e w' => e = .returned (.agg #[.iface 78 (.agg #[.int .i64 n, .slice ao m cap])]) ∧ Below w.heap.size w w' := by
  go_enter Tryz.func82, Tryz.ntmps82
  go_wp2
  exact bodyPost_ret (v := .agg #[.iface 78 (.agg #[.int .i64 n, .slice ao m cap])]) (by simp [results, Tryz.results82, go_sem]) rfl ⟨rfl, (below_new _ _).alloc (by simp) _⟩
/-- No elements of a class. -/
def noneV (c : Int) : VV := if c = 1 then .chars [] else if c = 2 then .boxes [] else .bits []
set_option maxHeartbeats 1000000 in
theorem vnone_calls (c : Int) (w : World) : Calls Tryz.prog 118 #[.int .i64 c] w fun e w' => ∃ u, e = .returned (.agg #[u]) ∧ IsV w' (fun b => w.heap.size ≤ b) u (noneV c) ∧ Below w.heap.size w w' := by
  by_cases h1 : c = 1
  · subst h1
    go_enter Tryz.func118, Tryz.ntmps118
    go_wp2_with fail
    refine (vchars_calls (ok := fun _ => False) _ [] _ (Slc.nil _ _) (by simp)).mono ?_
    rintro e w1 ⟨u, rfl, hs1, hB⟩
    obtain ⟨_, a0, af⟩ := (At1.new w .nilIface 29).below hB
    have af0 := af 0
    have hshape := hs1.shape
    have HS := Lib.hid hs1
    have HB := Lib.hid ((below_new w (.cells #[.nilIface] 29)).trans (hB.mono (by simp)))
    clear hs1 hB af
    unfold IsIface at hshape
    rcases hshape with rfl | ⟨t, x, rfl⟩
    · go_wp2
      refine bodyPost_ret (v := .agg #[.nilIface]) (by simp [results, Tryz.results118, go_sem, a0]) rfl ⟨_, rfl, ?_, below_set1 _ HB.out (Nat.le_refl _)⟩
      exact HS.out.keep (Kept.setCell _ _ _ (by simp)) (fun b _ h => by simp at h; omega)
    · go_wp2
      refine bodyPost_ret (v := .agg #[.iface t x]) (by simp [results, Tryz.results118, go_sem, a0]) rfl ⟨_, rfl, ?_, below_set1 _ HB.out (Nat.le_refl _)⟩
      exact HS.out.keep (Kept.setCell _ _ _ (by simp)) (fun b _ h => by simp at h; omega)
  · by_cases h2 : c = 2
    · subst h2
      go_enter Tryz.func118, Tryz.ntmps118
      go_wp2_with fail
      refine (vboxes_calls (ok := fun _ => False) _ [] _ (Arrs.nil _ _) (by simp) (by simp)).mono ?_
      rintro e w1 ⟨u, rfl, hs1, hB⟩
      obtain ⟨_, a0, af⟩ := (At1.new w .nilIface 29).below hB
      have af0 := af 0
      have hshape := hs1.shape
      have HS := Lib.hid hs1
      have HB := Lib.hid ((below_new w (.cells #[.nilIface] 29)).trans (hB.mono (by simp)))
      clear hs1 hB af
      unfold IsIface at hshape
      rcases hshape with rfl | ⟨t, x, rfl⟩
      · go_wp2
        refine bodyPost_ret (v := .agg #[.nilIface]) (by simp [results, Tryz.results118, go_sem, a0]) rfl ⟨_, rfl, ?_, below_set1 _ HB.out (Nat.le_refl _)⟩
        exact HS.out.keep (Kept.setCell _ _ _ (by simp)) (fun b _ h => by simp at h; omega)
      · go_wp2
        refine bodyPost_ret (v := .agg #[.iface t x]) (by simp [results, Tryz.results118, go_sem, a0]) rfl ⟨_, rfl, ?_, below_set1 _ HB.out (Nat.le_refl _)⟩
        exact HS.out.keep (Kept.setCell _ _ _ (by simp)) (fun b _ h => by simp at h; omega)
    · have hn : Hid (noneV c = .bits []) := Lib.hid (by unfold noneV; rw [if_neg h1, if_neg h2])
      have h1' : (c == 1) = false := by simpa using h1
      have h2' : (c == 2) = false := by simpa using h2
      clear h1 h2
      go_enter Tryz.func118, Tryz.ntmps118
      go_wp2_with fail
      refine (vbits_exact _ _ _ _ _).mono ?_
      rintro e w1 ⟨rfl, hB⟩
      obtain ⟨_, a0, af⟩ := (At1.new w .nilIface 29).below hB
      have af0 := af 0
      have HB := Lib.hid ((below_new w (.cells #[.nilIface] 29)).trans (hB.mono (by simp)))
      clear hB af
      go_wp2
      refine bodyPost_ret (v := .agg #[.iface 78 (.agg #[.int .i64 0, .slice Option.none 0 0])]) (by simp [results, Tryz.results118, go_sem, a0]) rfl ⟨_, rfl, ?_, below_set1 _ HB.out (Nat.le_refl _)⟩
      rw [hn.out]
      exact .bits (l := []) ⟨rfl, _, _, rfl, fun i hi => absurd hi (by simp [words, bws, u64s])⟩ (by simp)


end Go.Proofs.YtbfcdpabjailcaaGreatDoor

/- Regions whose calls only make memory; package vec's law: awake; the reference's Tidy. -/
namespace Go.Proofs.YtbfcdpabjailcaaGreatDoor
open Go.RowKit Fl
set_option linter.unusedVariables false
set_option maxRecDepth 100000

/-- A region that draws its order, whose operations read and whose calls hand back one value and only make memory: walked once. -/
theorem region_grow {P : Program} {id : Nat} {Q : Exit → Act → World → Prop} {a : Act} {w : World} {l : List Oper} (w0 : World) (hm : P.follows .mixedOrders = true) (hB : Region.lexB .any l.toArray = true) (hd : Below w0.heap.size w0 w)
    (h : ∀ (Ω : Type) [Inhabited Ω] (W : Ω → World), (∀ x, Below w0.heap.size w0 (W x)) → (∀ w', Below w0.heap.size w0 w' → ∃ x, w' = W x) →
      wpQuiet P l.toArray (fun w' => ∃ x, w' = W x) (fun a' => ∀ w', (∃ x, w' = W x) → Q .normal a' w') l a) : (Code.region id l.toArray true).wp P Q a w := by
  have hd' : Below w0.heap.size w0 { w with drawn := w.drawn + 1 } := ⟨hd.os, hd.tape, hd.output, hd.size, hd.block⟩
  have h2 := @h {w' : World // Below w0.heap.size w0 w'} ⟨⟨w0, Below.refl _ _⟩⟩ Subtype.val (fun x => x.2) (fun w' hw => ⟨⟨w', hw⟩, rfl⟩)
  exact wp_region_quiet (C := fun w' => ∃ x : {w' : World // Below w0.heap.size w0 w'}, w' = x.val) hm hB ⟨⟨_, hd'⟩, rfl⟩ (by simpa using h2)
theorem Calls.quiet_grow {P : Program} {f : FuncId} {args : Array Value} {w0 : World} {Ω : Type} {W : Ω → World} {v : Value} {x : Ω} (hW : ∀ x, Below w0.heap.size w0 (W x)) (hI : ∀ w', Below w0.heap.size w0 w' → ∃ x, w' = W x)
    (h : Calls P f args (W x) fun e w' => e = .returned v ∧ Below (W x).heap.size (W x) w') : Calls P f args (W x) fun e w'' => e = .returned v ∧ ∃ y, w'' = W y :=
  h.mono fun _ _ ⟨h1, h2⟩ => ⟨h1, hI _ ((hW x).trans (h2.mono (hW x).size))⟩
theorem Calls.grow_same {P : Program} {f : FuncId} {args : Array Value} {w : World} {v : Value} (h : Calls P f args w fun e w' => e = .returned v ∧ w = w') : Calls P f args w fun e w' => e = .returned v ∧ Below w.heap.size w w' :=
  h.mono fun _ _ ⟨h1, h2⟩ => ⟨h1, by rw [← h2]; exact Below.refl _ _⟩

theorem IsV.store {w : World} {ok : Nat → Prop} {u : Value} {V : VV} (h : IsV w ok u V) : ∀ (w : World) (a : Addr) (m : Mode), (store a u m).run Tryz.prog w = stored Tryz.prog w a u m := by
  intro w a m
  have := h.shape
  rcases this with rfl | ⟨t, x, rfl⟩
  · exact run_store Tryz.prog w a _ m rfl
  · exact run_store Tryz.prog w a _ m rfl

end Go.Proofs.YtbfcdpabjailcaaGreatDoor

/- Package vec's law: the reference's Tidy of lists; shows. -/
namespace Go.Proofs.YtbfcdpabjailcaaGreatDoor
open Go.RowKit Fl
set_option linter.unusedVariables false
set_option maxRecDepth 100000

end Go.Proofs.YtbfcdpabjailcaaGreatDoor

/- Package vec's law: shows. -/
namespace Go.Proofs.YtbfcdpabjailcaaGreatDoor
open Go.RowKit Fl
set_option linter.unusedVariables false
set_option maxRecDepth 100000

end Go.Proofs.YtbfcdpabjailcaaGreatDoor

/- VecBits, walked. -/
namespace Go.Proofs.YtbfcdpabjailcaaGreatDoor
open Go.RowKit Fl
set_option linter.unusedVariables false
set_option maxRecDepth 100000

theorem num_one : Num 4607182418800017408 := ⟨one_fin, fun h => absurd h (by decide)⟩
theorem num_flag (b : Bool) : Num (flagW b) := by cases b; exact num_zero; exact num_one
theorem num_ofInt (n : Int) (h : sm n = true) : Num (floatOfInt .f64 n) := by
  obtain ⟨h1, h2⟩ := sm_of h
  refine ⟨ofInt_fin n (by omega), fun hz => ?_⟩
  have hv := ofInt_val n (by omega)
  rw [V_eq_zero.2 hz] at hv
  have hp := pw_pos 1074
  have hn : n = 0 := by
    rcases Int.mul_eq_zero.1 hv.symm with h | h
    · exact h
    · omega
  subst hn
  decide +kernel
theorem sm_i8 {z : Int} (h1 : -128 ≤ z) (h2 : z ≤ 127) : sm z = true := sm_yes (by omega) (by omega)
end Go.Proofs.YtbfcdpabjailcaaGreatDoor

/- Package vec: what Text and Wholes tell is the caller's own; append of what came in to a new slice. -/
namespace Go.Proofs.YtbfcdpabjailcaaGreatDoor
open Go.RowKit
set_option linter.unusedVariables false
set_option maxRecDepth 100000

end Go.Proofs.YtbfcdpabjailcaaGreatDoor

/- VecApart, walked. -/
namespace Go.Proofs.YtbfcdpabjailcaaGreatDoor
open Go.RowKit Fl
set_option linter.unusedVariables false
set_option maxRecDepth 100000

theorem Slc.lt {w : World} {ok : Nat → Prop} {s : Value} {n : Nat} {xs : List Value} (h : Slc w ok s n xs) : Slc w (fun b => b < w.heap.size) s n xs := h.keep (Kept.refl _ _) (fun _ h _ => h)
end Go.Proofs.YtbfcdpabjailcaaGreatDoor
