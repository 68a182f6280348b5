/- Walks of package trouble over a chain of errors: none, Through, the methods. -/
import Derived.Test.YtnionifbhmfkoaaDoorTrA
import Derived.LaidEql
import Derived.Stop.Asserts
namespace Go.Proofs.YtnionifbhmfkoaaDoor
open Go.RowKit Go.Extern.Stop Go.Stop Go.Extern
set_option maxRecDepth 100000

theorem ta_PTrouble_PTrouble (v : Value) (w : World) : (Instr.typeAssert (.iface 41 v) 26 41 true).run Tryd.prog w = .ok (.tuple #[v, .bool true]) w := by kernel_rfl
theorem ta_PTrouble_PCall (v : Value) (w : World) : (Instr.typeAssert (.iface 41 v) 26 42 true).run Tryd.prog w = .ok (.tuple #[.pointer none, .bool false]) w := by kernel_rfl
theorem ta_PTrouble_IAs (v : Value) (w : World) : (Instr.typeAssert (.iface 41 v) 26 99 true).run Tryd.prog w = .ok (.tuple #[.nilIface, .bool false]) w := run_typeAssert_lacksB Tryd.underlying99 (by kernel_rfl) (by kernel_rfl) v _ w
theorem ta_PTrouble_IUnw (v : Value) (w : World) : (Instr.typeAssert (.iface 41 v) 26 86 true).run Tryd.prog w = .ok (.tuple #[.iface 41 v, .bool true]) w := by kernel_rfl
theorem ta_PTrouble_IUnws (v : Value) (w : World) : (Instr.typeAssert (.iface 41 v) 26 94 true).run Tryd.prog w = .ok (.tuple #[.nilIface, .bool false]) w := run_typeAssert_lacksB Tryd.underlying94 (by kernel_rfl) (by kernel_rfl) v _ w
theorem ta_PTrouble_IIs (v : Value) (w : World) : (Instr.typeAssert (.iface 41 v) 26 92 true).run Tryd.prog w = .ok (.tuple #[.nilIface, .bool false]) w := run_typeAssert_lacksB Tryd.underlying92 (by kernel_rfl) (by kernel_rfl) v _ w
theorem ta_PCall_PTrouble (v : Value) (w : World) : (Instr.typeAssert (.iface 42 v) 26 41 true).run Tryd.prog w = .ok (.tuple #[.pointer none, .bool false]) w := by kernel_rfl
theorem ta_PCall_PCall (v : Value) (w : World) : (Instr.typeAssert (.iface 42 v) 26 42 true).run Tryd.prog w = .ok (.tuple #[v, .bool true]) w := by kernel_rfl
theorem ta_PCall_IAs (v : Value) (w : World) : (Instr.typeAssert (.iface 42 v) 26 99 true).run Tryd.prog w = .ok (.tuple #[.nilIface, .bool false]) w := run_typeAssert_lacksB Tryd.underlying99 (by kernel_rfl) (by kernel_rfl) v _ w
theorem ta_PCall_IUnw (v : Value) (w : World) : (Instr.typeAssert (.iface 42 v) 26 86 true).run Tryd.prog w = .ok (.tuple #[.iface 42 v, .bool true]) w := by kernel_rfl
theorem ta_PCall_IUnws (v : Value) (w : World) : (Instr.typeAssert (.iface 42 v) 26 94 true).run Tryd.prog w = .ok (.tuple #[.nilIface, .bool false]) w := run_typeAssert_lacksB Tryd.underlying94 (by kernel_rfl) (by kernel_rfl) v _ w
theorem ta_PCall_IIs (v : Value) (w : World) : (Instr.typeAssert (.iface 42 v) 26 92 true).run Tryd.prog w = .ok (.tuple #[.nilIface, .bool false]) w := run_typeAssert_lacksB Tryd.underlying92 (by kernel_rfl) (by kernel_rfl) v _ w
theorem ta_Class_PTrouble (v : Value) (w : World) : (Instr.typeAssert (.iface 38 v) 26 41 true).run Tryd.prog w = .ok (.tuple #[.pointer none, .bool false]) w := by kernel_rfl
theorem ta_Class_PCall (v : Value) (w : World) : (Instr.typeAssert (.iface 38 v) 26 42 true).run Tryd.prog w = .ok (.tuple #[.pointer none, .bool false]) w := by kernel_rfl
theorem ta_Class_IAs (v : Value) (w : World) : (Instr.typeAssert (.iface 38 v) 26 99 true).run Tryd.prog w = .ok (.tuple #[.nilIface, .bool false]) w := run_typeAssert_lacksB Tryd.underlying99 (by kernel_rfl) (by kernel_rfl) v _ w
theorem ta_Class_IUnw (v : Value) (w : World) : (Instr.typeAssert (.iface 38 v) 26 86 true).run Tryd.prog w = .ok (.tuple #[.nilIface, .bool false]) w := run_typeAssert_lacksB Tryd.underlying86 (by kernel_rfl) (by kernel_rfl) v _ w
theorem ta_Class_IUnws (v : Value) (w : World) : (Instr.typeAssert (.iface 38 v) 26 94 true).run Tryd.prog w = .ok (.tuple #[.nilIface, .bool false]) w := run_typeAssert_lacksB Tryd.underlying94 (by kernel_rfl) (by kernel_rfl) v _ w
theorem ta_Class_IIs (v : Value) (w : World) : (Instr.typeAssert (.iface 38 v) 26 92 true).run Tryd.prog w = .ok (.tuple #[.nilIface, .bool false]) w := run_typeAssert_lacksB Tryd.underlying92 (by kernel_rfl) (by kernel_rfl) v _ w

set_option maxHeartbeats 400000 in
theorem none_nil (w : World) : Calls Tryd.prog 30 #[.nilIface] w fun e w' => e = .returned (.bool true) ∧ w = w' := by
  go_enter Tryd.func30, Tryd.ntmps30
  go_wp2
  go_ret
  exact ⟨rfl, rfl⟩
set_option maxHeartbeats 400000 in
theorem none_trouble (p : Addr) (w : World) : Calls Tryd.prog 30 #[.iface 41 (.pointer (some p))] w fun e w' => e = .returned (.bool false) ∧ w = w' := by
  have h := ta_PTrouble_PTrouble
  go_enter Tryd.func30, Tryd.ntmps30
  go_wp2
  go_ret
  exact ⟨rfl, rfl⟩
set_option maxHeartbeats 400000 in
theorem none_class (c : Int) (w : World) : Calls Tryd.prog 30 #[.iface 38 (.int .i64 c)] w fun e w' => e = .returned (.bool false) ∧ w = w' := by
  have h := ta_Class_PTrouble
  have h' := ta_Class_PCall
  go_enter Tryd.func30, Tryd.ntmps30
  go_wp2
  go_ret
  exact ⟨rfl, rfl⟩
set_option maxHeartbeats 400000 in
theorem none_call (b : Nat) (n : ByteArray) (t : TypeId) (v : Value) (w : World) (h0 : w.cell? ⟨b, 0, none⟩ = some (.string n)) (h1 : w.cell? ⟨b, 1, none⟩ = some (.iface t v)) :
    Calls Tryd.prog 30 #[.iface 42 (.pointer (some ⟨b, 0, none⟩))] w fun e w' => e = .returned (.bool false) ∧ w = w' := by
  have h := ta_PCall_PTrouble
  have h' := ta_PCall_PCall
  go_enter Tryd.func30, Tryd.ntmps30
  go_wp2
  all_goals
    go_ret
    exact ⟨rfl, rfl⟩

/-! Through, Error, Unwrap -/
set_option maxHeartbeats 400000 in
theorem through_nil (n : ByteArray) (w : World) : Calls Tryd.prog 29 #[.string n, .nilIface] w fun e w' => e = .returned .nilIface ∧ w = w' := by
  go_enter Tryd.func29, Tryd.ntmps29
  go_wp2_with (go_at_call 30; refine (none_nil _).mono ?_; rintro e w' ⟨rfl, rfl⟩)
  go_ret
  exact ⟨rfl, rfl⟩
set_option maxHeartbeats 400000 in
theorem through_some (n : ByteArray) (t : TypeId) (v : Value) (w : World) (hn : Calls Tryd.prog 30 #[.iface t v] w fun e w' => e = .returned (.bool false) ∧ w = w') :
    Calls Tryd.prog 29 #[.string n, .iface t v] w fun e w' => e = .returned (.iface 42 (.pointer (some ⟨w.heap.size, 0, none⟩))) ∧ w' = w.alloc (.cells #[.string n, .iface t v] 51) := by
  have H := Lib.hid hn; clear hn
  go_enter Tryd.func29, Tryd.ntmps29
  go_wp2_with (go_at_call 30; refine (H.out).mono ?_; rintro e w' ⟨rfl, rfl⟩)
  go_ret
  exact ⟨rfl, rfl⟩
set_option maxHeartbeats 400000 in
theorem classError_calls (c : Int) (w : World) : Calls Tryd.prog 19 #[.int .i64 c] w fun e w' => e = .returned (.string (wordB c)) ∧ w = w' := by
  go_enter Tryd.func19, Tryd.ntmps19
  go_wp2_with (go_at_call 17; refine (word_calls _ _).mono ?_; rintro e w' ⟨rfl, rfl⟩)
  go_ret
  exact ⟨rfl, rfl⟩
set_option maxHeartbeats 400000 in
theorem troubleError_calls (b : Nat) (c : Int) (w : World) (h0 : w.cell? ⟨b, 0, none⟩ = some (.int .i64 c)) : Calls Tryd.prog 22 #[.pointer (some ⟨b, 0, none⟩)] w fun e w' => e = .returned (.string (wordB c)) ∧ w = w' := by
  go_enter Tryd.func22, Tryd.ntmps22
  go_wp2_with (go_at_call 19; refine (classError_calls _ _).mono ?_; rintro e w' ⟨rfl, rfl⟩)
  go_ret
  exact ⟨rfl, rfl⟩
set_option maxHeartbeats 400000 in
theorem troubleUnwrap_calls (b : Nat) (c : Int) (w : World) (h0 : w.cell? ⟨b, 0, none⟩ = some (.int .i64 c)) (hc : (c == 0) = false) : Calls Tryd.prog 23 #[.pointer (some ⟨b, 0, none⟩)] w fun e w' => e = .returned (.iface 38 (.int .i64 c)) ∧ w = w' := by
  go_enter Tryd.func23, Tryd.ntmps23
  go_wp2
  go_ret
  exact ⟨rfl, rfl⟩
set_option maxHeartbeats 400000 in
theorem callUnwrap_calls (b : Nat) (u : Value) (w : World) (h1 : w.cell? ⟨b, 1, none⟩ = some u) : Calls Tryd.prog 25 #[.pointer (some ⟨b, 0, none⟩)] w fun e w' => e = .returned u ∧ w = w' := by
  go_enter Tryd.func25, Tryd.ntmps25
  go_wp2
  go_ret
  exact ⟨rfl, rfl⟩
theorem mUnwrapT (h : Value) (w : World) : (Go.method 242 41 h "Unwrap").run Tryd.prog w = .ok (23, h) w := by kernel_rfl
theorem mUnwrapC (h : Value) (w : World) : (Go.method 242 42 h "Unwrap").run Tryd.prog w = .ok (25, h) w := by kernel_rfl
set_option maxHeartbeats 400000 in
theorem unwrap_trouble (b : Nat) (c : Int) (w : World) (h0 : w.cell? ⟨b, 0, none⟩ = some (.int .i64 c)) (hc : (c == 0) = false) : Calls Tryd.prog 31 #[.iface 41 (.pointer (some ⟨b, 0, none⟩))] w fun e w' => e = .returned (.iface 38 (.int .i64 c)) ∧ w = w' := by
  have a1 := ta_PTrouble_IUnw
  have m1 := mUnwrapT
  go_enter Tryd.func31, Tryd.ntmps31
  go_wp2_with (go_at_call 23; refine (troubleUnwrap_calls _ _ _ h0 hc).mono ?_; rintro e w' ⟨rfl, rfl⟩)
  go_ret
  exact ⟨rfl, rfl⟩
set_option maxHeartbeats 400000 in
theorem unwrap_call (b : Nat) (u : Value) (w : World) (h1 : w.cell? ⟨b, 1, none⟩ = some u) : Calls Tryd.prog 31 #[.iface 42 (.pointer (some ⟨b, 0, none⟩))] w fun e w' => e = .returned u ∧ w = w' := by
  have a1 := ta_PCall_IUnw
  have m1 := mUnwrapC
  go_enter Tryd.func31, Tryd.ntmps31
  go_wp2_with (go_at_call 25; refine (callUnwrap_calls _ _ _ h1).mono ?_; rintro e w' ⟨rfl, rfl⟩)
  go_ret
  exact ⟨rfl, rfl⟩
set_option maxHeartbeats 400000 in
theorem unwrap_class (c : Int) (w : World) : Calls Tryd.prog 31 #[.iface 38 (.int .i64 c)] w fun e w' => e = .returned .nilIface ∧ w = w' := by
  have a1 := ta_Class_IUnw
  go_enter Tryd.func31, Tryd.ntmps31
  go_wp2
  go_ret
  exact ⟨rfl, rfl⟩
end Go.Proofs.YtnionifbhmfkoaaDoor
