/- Package vec: what a vector is in memory; facts of its types. -/
import Derived.Test.YtbdhibcbpgjbmaaGreatDoorBvB
namespace Go.Proofs.YtbdhibcbpgjbmaaGreatDoor
set_option maxRecDepth 100000
open Go.RowKit
set_option linter.unusedVariables false

theorem info_i8 : (Tryz.prog.info? 87).map (fun i => (i.zero, i.size, i.bytes)) = some (some (.int .i8 0), 1, 1) := by kernel_rfl
theorem info_i64 : (Tryz.prog.info? 2).map (fun i => (i.zero, i.size, i.bytes)) = some (some (.int .i64 0), 1, 8) := by kernel_rfl
theorem info_i32 : (Tryz.prog.info? 21).map (fun i => (i.zero, i.size, i.bytes)) = some (some (.int .i32 0), 1, 4) := by kernel_rfl
theorem info_f64 : (Tryz.prog.info? 31).map (fun i => (i.zero, i.size, i.bytes)) = some (some (.float .f64 0), 1, 8) := by kernel_rfl
theorem info_arr : (Tryz.prog.info? 38).map (fun i => (i.zero, i.size, i.bytes)) = some (some (.agg #[.slice none 0 0, .nilIface]), 2, 40) := by kernel_rfl
theorem info_vec : (Tryz.prog.info? 36).map (fun i => (i.zero, i.size, i.bytes)) = some (some (.agg #[.nilIface]), 1, 16) := by kernel_rfl
theorem ta_nil_Bits (w : World) : (Instr.typeAssert .nilIface 20 81 true).run Tryz.prog w = .ok (.tuple #[.agg #[.int .i64 0, .slice none 0 0], .bool false]) w := by kernel_rfl
theorem ta_Bits_Bits (v : Value) (w : World) : (Instr.typeAssert (.iface 81 v) 20 81 true).run Tryz.prog w = .ok (.tuple #[v, .bool true]) w := by kernel_rfl
theorem ta_Bits_slI8 (v : Value) (w : World) : (Instr.typeAssert (.iface 81 v) 20 85 true).run Tryz.prog w = .ok (.tuple #[.slice none 0 0, .bool false]) w := by kernel_rfl
theorem ta_Bits_slI64 (v : Value) (w : World) : (Instr.typeAssert (.iface 81 v) 20 89 true).run Tryz.prog w = .ok (.tuple #[.slice none 0 0, .bool false]) w := by kernel_rfl
theorem ta_Bits_slF (v : Value) (w : World) : (Instr.typeAssert (.iface 81 v) 20 52 true).run Tryz.prog w = .ok (.tuple #[.slice none 0 0, .bool false]) w := by kernel_rfl
theorem ta_Bits_slI32 (v : Value) (w : World) : (Instr.typeAssert (.iface 81 v) 20 102 true).run Tryz.prog w = .ok (.tuple #[.slice none 0 0, .bool false]) w := by kernel_rfl
theorem ta_Bits_slA (v : Value) (w : World) : (Instr.typeAssert (.iface 81 v) 20 103 true).run Tryz.prog w = .ok (.tuple #[.slice none 0 0, .bool false]) w := by kernel_rfl
theorem ta_nil_slI8 (w : World) : (Instr.typeAssert .nilIface 20 85 true).run Tryz.prog w = .ok (.tuple #[.slice none 0 0, .bool false]) w := by kernel_rfl
theorem ta_slI8_Bits (v : Value) (w : World) : (Instr.typeAssert (.iface 85 v) 20 81 true).run Tryz.prog w = .ok (.tuple #[.agg #[.int .i64 0, .slice none 0 0], .bool false]) w := by kernel_rfl
theorem ta_slI8_slI8 (v : Value) (w : World) : (Instr.typeAssert (.iface 85 v) 20 85 true).run Tryz.prog w = .ok (.tuple #[v, .bool true]) w := by kernel_rfl
theorem ta_slI8_slI64 (v : Value) (w : World) : (Instr.typeAssert (.iface 85 v) 20 89 true).run Tryz.prog w = .ok (.tuple #[.slice none 0 0, .bool false]) w := by kernel_rfl
theorem ta_slI8_slF (v : Value) (w : World) : (Instr.typeAssert (.iface 85 v) 20 52 true).run Tryz.prog w = .ok (.tuple #[.slice none 0 0, .bool false]) w := by kernel_rfl
theorem ta_slI8_slI32 (v : Value) (w : World) : (Instr.typeAssert (.iface 85 v) 20 102 true).run Tryz.prog w = .ok (.tuple #[.slice none 0 0, .bool false]) w := by kernel_rfl
theorem ta_slI8_slA (v : Value) (w : World) : (Instr.typeAssert (.iface 85 v) 20 103 true).run Tryz.prog w = .ok (.tuple #[.slice none 0 0, .bool false]) w := by kernel_rfl
theorem ta_nil_slI64 (w : World) : (Instr.typeAssert .nilIface 20 89 true).run Tryz.prog w = .ok (.tuple #[.slice none 0 0, .bool false]) w := by kernel_rfl
theorem ta_slI64_Bits (v : Value) (w : World) : (Instr.typeAssert (.iface 89 v) 20 81 true).run Tryz.prog w = .ok (.tuple #[.agg #[.int .i64 0, .slice none 0 0], .bool false]) w := by kernel_rfl
theorem ta_slI64_slI8 (v : Value) (w : World) : (Instr.typeAssert (.iface 89 v) 20 85 true).run Tryz.prog w = .ok (.tuple #[.slice none 0 0, .bool false]) w := by kernel_rfl
theorem ta_slI64_slI64 (v : Value) (w : World) : (Instr.typeAssert (.iface 89 v) 20 89 true).run Tryz.prog w = .ok (.tuple #[v, .bool true]) w := by kernel_rfl
theorem ta_slI64_slF (v : Value) (w : World) : (Instr.typeAssert (.iface 89 v) 20 52 true).run Tryz.prog w = .ok (.tuple #[.slice none 0 0, .bool false]) w := by kernel_rfl
theorem ta_slI64_slI32 (v : Value) (w : World) : (Instr.typeAssert (.iface 89 v) 20 102 true).run Tryz.prog w = .ok (.tuple #[.slice none 0 0, .bool false]) w := by kernel_rfl
theorem ta_slI64_slA (v : Value) (w : World) : (Instr.typeAssert (.iface 89 v) 20 103 true).run Tryz.prog w = .ok (.tuple #[.slice none 0 0, .bool false]) w := by kernel_rfl
theorem ta_nil_slF (w : World) : (Instr.typeAssert .nilIface 20 52 true).run Tryz.prog w = .ok (.tuple #[.slice none 0 0, .bool false]) w := by kernel_rfl
theorem ta_slF_Bits (v : Value) (w : World) : (Instr.typeAssert (.iface 52 v) 20 81 true).run Tryz.prog w = .ok (.tuple #[.agg #[.int .i64 0, .slice none 0 0], .bool false]) w := by kernel_rfl
theorem ta_slF_slI8 (v : Value) (w : World) : (Instr.typeAssert (.iface 52 v) 20 85 true).run Tryz.prog w = .ok (.tuple #[.slice none 0 0, .bool false]) w := by kernel_rfl
theorem ta_slF_slI64 (v : Value) (w : World) : (Instr.typeAssert (.iface 52 v) 20 89 true).run Tryz.prog w = .ok (.tuple #[.slice none 0 0, .bool false]) w := by kernel_rfl
theorem ta_slF_slF (v : Value) (w : World) : (Instr.typeAssert (.iface 52 v) 20 52 true).run Tryz.prog w = .ok (.tuple #[v, .bool true]) w := by kernel_rfl
theorem ta_slF_slI32 (v : Value) (w : World) : (Instr.typeAssert (.iface 52 v) 20 102 true).run Tryz.prog w = .ok (.tuple #[.slice none 0 0, .bool false]) w := by kernel_rfl
theorem ta_slF_slA (v : Value) (w : World) : (Instr.typeAssert (.iface 52 v) 20 103 true).run Tryz.prog w = .ok (.tuple #[.slice none 0 0, .bool false]) w := by kernel_rfl
theorem ta_nil_slI32 (w : World) : (Instr.typeAssert .nilIface 20 102 true).run Tryz.prog w = .ok (.tuple #[.slice none 0 0, .bool false]) w := by kernel_rfl
theorem ta_slI32_Bits (v : Value) (w : World) : (Instr.typeAssert (.iface 102 v) 20 81 true).run Tryz.prog w = .ok (.tuple #[.agg #[.int .i64 0, .slice none 0 0], .bool false]) w := by kernel_rfl
theorem ta_slI32_slI8 (v : Value) (w : World) : (Instr.typeAssert (.iface 102 v) 20 85 true).run Tryz.prog w = .ok (.tuple #[.slice none 0 0, .bool false]) w := by kernel_rfl
theorem ta_slI32_slI64 (v : Value) (w : World) : (Instr.typeAssert (.iface 102 v) 20 89 true).run Tryz.prog w = .ok (.tuple #[.slice none 0 0, .bool false]) w := by kernel_rfl
theorem ta_slI32_slF (v : Value) (w : World) : (Instr.typeAssert (.iface 102 v) 20 52 true).run Tryz.prog w = .ok (.tuple #[.slice none 0 0, .bool false]) w := by kernel_rfl
theorem ta_slI32_slI32 (v : Value) (w : World) : (Instr.typeAssert (.iface 102 v) 20 102 true).run Tryz.prog w = .ok (.tuple #[v, .bool true]) w := by kernel_rfl
theorem ta_slI32_slA (v : Value) (w : World) : (Instr.typeAssert (.iface 102 v) 20 103 true).run Tryz.prog w = .ok (.tuple #[.slice none 0 0, .bool false]) w := by kernel_rfl
theorem ta_nil_slA (w : World) : (Instr.typeAssert .nilIface 20 103 true).run Tryz.prog w = .ok (.tuple #[.slice none 0 0, .bool false]) w := by kernel_rfl
theorem ta_slA_Bits (v : Value) (w : World) : (Instr.typeAssert (.iface 103 v) 20 81 true).run Tryz.prog w = .ok (.tuple #[.agg #[.int .i64 0, .slice none 0 0], .bool false]) w := by kernel_rfl
theorem ta_slA_slI8 (v : Value) (w : World) : (Instr.typeAssert (.iface 103 v) 20 85 true).run Tryz.prog w = .ok (.tuple #[.slice none 0 0, .bool false]) w := by kernel_rfl
theorem ta_slA_slI64 (v : Value) (w : World) : (Instr.typeAssert (.iface 103 v) 20 89 true).run Tryz.prog w = .ok (.tuple #[.slice none 0 0, .bool false]) w := by kernel_rfl
theorem ta_slA_slF (v : Value) (w : World) : (Instr.typeAssert (.iface 103 v) 20 52 true).run Tryz.prog w = .ok (.tuple #[.slice none 0 0, .bool false]) w := by kernel_rfl
theorem ta_slA_slI32 (v : Value) (w : World) : (Instr.typeAssert (.iface 103 v) 20 102 true).run Tryz.prog w = .ok (.tuple #[.slice none 0 0, .bool false]) w := by kernel_rfl
theorem ta_slA_slA (v : Value) (w : World) : (Instr.typeAssert (.iface 103 v) 20 103 true).run Tryz.prog w = .ok (.tuple #[v, .bool true]) w := by kernel_rfl

/-- What a vector holds. -/
inductive VV where
 | none
 | bits (l : List Bool)
 | smalls (l : List Int)
 | ints (l : List Int)
 | floats (l : List Nat)
 | chars (l : List Int)
 | boxes (l : List (List Int × VV))
def VV.kind : VV → Int
 | .none => 0 | .bits _ => 1 | .smalls _ => 2 | .ints _ => 3 | .floats _ => 4 | .chars _ => 5 | .boxes _ => 6
def VV.cls : VV → Int
 | .chars _ => 1 | .boxes _ => 2 | _ => 0
def VV.len : VV → Nat
 | .none => 0 | .bits l => l.length | .smalls l => l.length | .ints l => l.length | .floats l => l.length | .chars l => l.length | .boxes l => l.length

def i8s (l : List Int) : List Value := l.map (Value.int .i8)
def i32s (l : List Int) : List Value := l.map (Value.int .i32)
def f64s (l : List Nat) : List Value := l.map (Value.float .f64)
theorem i8s_len (l : List Int) : (i8s l).length = l.length := by simp [i8s]
theorem i32s_len (l : List Int) : (i32s l).length = l.length := by simp [i32s]
theorem f64s_len (l : List Nat) : (f64s l).length = l.length := by simp [f64s]
theorem i8s_get (l : List Int) (i : Nat) (h : i < (i8s l).length) : (i8s l)[i] = .int .i8 (l[i]'(by simpa [i8s] using h)) := by simp [i8s]
theorem i32s_get (l : List Int) (i : Nat) (h : i < (i32s l).length) : (i32s l)[i] = .int .i32 (l[i]'(by simpa [i32s] using h)) := by simp [i32s]
theorem f64s_get (l : List Nat) (i : Nat) (h : i < (f64s l).length) : (f64s l)[i] = .float .f64 (l[i]'(by simpa [f64s] using h)) := by simp [f64s]

/-- u is what a vector keeps: V. -/
inductive IsV (w : World) (ok : Nat → Prop) : Value → VV → Prop
 | none : IsV w ok .nilIface .none
 | bits {s : Value} {l : List Bool} (h : Slx w ok s ((l.length + 63) / 64) (u64s (words l))) (hm : l.length ≤ 1048576) : IsV w ok (.iface 81 (.agg #[.int .i64 (l.length : Int), s])) (.bits l)
 | smalls {s : Value} {l : List Int} (h : Slc w ok s l.length (i8s l)) : IsV w ok (.iface 85 s) (.smalls l)
 | ints {s : Value} {l : List Int} (h : Slc w ok s l.length (ints l)) : IsV w ok (.iface 89 s) (.ints l)
 | floats {s : Value} {l : List Nat} (h : Slc w ok s l.length (f64s l)) : IsV w ok (.iface 52 s) (.floats l)
 | chars {s : Value} {l : List Int} (h : Slc w ok s l.length (i32s l)) : IsV w ok (.iface 102 s) (.chars l)
 | boxes {ao : Option Addr} {cap : Nat} {l : List (List Int × VV)} (f g : Nat → Value) (h1 : l.length ≤ cap) (h2 : cap ≤ maxLen)
   (hc : ∀ i, i < l.length → ∃ b off, ao = some ⟨b, off, Option.none⟩ ∧ ok b ∧ w.cell? ⟨b, off + i * 2, Option.none⟩ = some (f i) ∧ w.cell? ⟨b, off + i * 2 + 1, Option.none⟩ = some (g i))
   (hs : ∀ i (h : i < l.length), Slc w ok (f i) (l[i]).1.length (_root_.Go.Proofs.YtbdhibcbpgjbmaaGreatDoor.ints (l[i]).1))
   (hv : ∀ i (h : i < l.length), IsV w ok (g i) (l[i]).2) : IsV w ok (.iface 103 (.slice ao l.length cap)) (.boxes l)
theorem IsV.keep {w w' : World} {ok ok' : Nat → Prop} {u : Value} {V : VV} (hk : Kept ok w w') (hm : ∀ b, b < w.heap.size → ok b → ok' b) (h : IsV w ok u V) : IsV w' ok' u V := by
 induction h with
 | none => exact .none
 | bits h hl => exact .bits (h.keep hk hm) hl
 | smalls h => exact .smalls (h.keep hk hm)
 | ints h => exact .ints (h.keep hk hm)
 | floats h => exact .floats (h.keep hk hm)
 | chars h => exact .chars (h.keep hk hm)
 | boxes f g h1 h2 hc hs hv ih =>
  refine .boxes f g h1 h2 (fun i hi => ?_) (fun i hi => (hs i hi).keep hk hm) (fun i hi => ih i hi)
  obtain ⟨b, off, e, hb, c1, c2⟩ := hc i hi
  exact ⟨b, off, e, hm b (World.block_lt_of_cell? w _ c1) hb, hk _ _ hb c1, hk _ _ hb c2⟩
theorem IsV.grow {w w' : World} {ok : Nat → Prop} {u : Value} {V : VV} (h : IsV w ok u V) (hb : Below w.heap.size w w') : IsV w' ok u V := h.keep (Kept.below hb) (fun _ _ h => h)
theorem IsV.wide {w : World} {ok ok' : Nat → Prop} {u : Value} {V : VV} (h : IsV w ok u V) (hm : ∀ b, b < w.heap.size → ok b → ok' b) : IsV w ok' u V := h.keep (Kept.refl _ _) hm
theorem IsV.any {w : World} {ok : Nat → Prop} {u : Value} {V : VV} (h : IsV w ok u V) : IsV w (fun _ => True) u V := h.wide (fun _ _ _ => trivial)
theorem IsV.lt {w : World} {ok : Nat → Prop} {u : Value} {V : VV} (h : IsV w ok u V) : IsV w (fun b => ok b ∧ b < w.heap.size) u V := h.wide (fun _ hb ho => ⟨ho, hb⟩)
theorem IsV.isBits {w : World} {ok : Nat → Prop} {v : Value} {l : List Bool} (h : Slx w ok v ((l.length + 63) / 64) (u64s (words l))) : IsBits w (.agg #[.int .i64 (l.length : Int), v]) l := ⟨_, rfl, h.sl⟩
theorem IsV.go {w w' : World} {ok : Nat → Prop} {u : Value} {V : VV} (h : IsV w ok u V) (hB : Below w.heap.size w w') : Hid (IsV w' ok u V) := Lib.hid (h.grow hB)
end Go.Proofs.YtbdhibcbpgjbmaaGreatDoor
