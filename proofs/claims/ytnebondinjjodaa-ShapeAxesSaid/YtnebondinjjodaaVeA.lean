/- Package vec: what a vector is in memory; facts of its types. -/
import Derived.Test.YtnebondinjjodaaBvB
namespace Go.Proofs.Ytnebondinjjodaa
open Go.RowKit
set_option linter.unusedVariables false

theorem info_i64 : (Try.prog.info? 2).map (fun i => (i.zero, i.size, i.bytes)) = some (some (.int .i64 0), 1, 8) := by kernel_rfl
theorem info_i32 : (Try.prog.info? 21).map (fun i => (i.zero, i.size, i.bytes)) = some (some (.int .i32 0), 1, 4) := by kernel_rfl
/-- What a vector holds. -/
inductive VV where
  | none
  | bits (l : List Bool)
  | smalls (l : List Int)
  | ints (l : List Int)
  | floats (l : List Nat)
  | chars (l : List Int)
  | boxes (l : List (List Int × VV))
def VV.kind : VV → Int
  | .none => 0 | .bits _ => 1 | .smalls _ => 2 | .ints _ => 3 | .floats _ => 4 | .chars _ => 5 | .boxes _ => 6
def VV.cls : VV → Int
  | .chars _ => 1 | .boxes _ => 2 | _ => 0
def VV.len : VV → Nat
  | .none => 0 | .bits l => l.length | .smalls l => l.length | .ints l => l.length | .floats l => l.length | .chars l => l.length | .boxes l => l.length

def i8s (l : List Int) : List Value := l.map (Value.int .i8)
def i32s (l : List Int) : List Value := l.map (Value.int .i32)
def f64s (l : List Nat) : List Value := l.map (Value.float .f64)
theorem i8s_len (l : List Int) : (i8s l).length = l.length := by simp [i8s]
theorem i32s_len (l : List Int) : (i32s l).length = l.length := by simp [i32s]
theorem f64s_len (l : List Nat) : (f64s l).length = l.length := by simp [f64s]
theorem i8s_get (l : List Int) (i : Nat) (h : i < (i8s l).length) : (i8s l)[i] = .int .i8 (l[i]'(by simpa [i8s] using h)) := by simp [i8s]
theorem i32s_get (l : List Int) (i : Nat) (h : i < (i32s l).length) : (i32s l)[i] = .int .i32 (l[i]'(by simpa [i32s] using h)) := by simp [i32s]
theorem f64s_get (l : List Nat) (i : Nat) (h : i < (f64s l).length) : (f64s l)[i] = .float .f64 (l[i]'(by simpa [f64s] using h)) := by simp [f64s]

theorem IsV.isBits {w : World} {ok : Nat → Prop} {v : Value} {l : List Bool} (h : Slx w ok v ((l.length + 63) / 64) (u64s (words l))) : IsBits w (.agg #[.int .i64 (l.length : Int), v]) l := ⟨_, rfl, h.sl⟩
end Go.Proofs.Ytnebondinjjodaa
