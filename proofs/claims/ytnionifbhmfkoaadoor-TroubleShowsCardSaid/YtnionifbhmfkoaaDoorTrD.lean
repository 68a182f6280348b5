/- errors.as and errors.As over chains of package trouble: contracts. -/
import Derived.Test.YtnionifbhmfkoaaDoorTrC
import Derived.Deep.LoopGhost
namespace Go.Proofs.YtnionifbhmfkoaaDoor
open Go.RowKit Go.Extern.Stop Go.Stop Go.Extern
set_option maxRecDepth 100000

/-- u is the class c alone (0), a trouble of it (1), or one that came through k calls (k + 1). -/
def Link (w : World) (c : Int) (bt : Nat) : Nat → Value → Prop
  | 0, u => u = .iface 38 (.int .i64 c)
  | 1, u => u = .iface 41 (.pointer (some ⟨bt, 0, none⟩)) ∧ w.cell? ⟨bt, 0, none⟩ = some (.int .i64 c)
  | k + 2, u => ∃ (b : Nat) (x : Value), u = .iface 42 (.pointer (some ⟨b, 0, none⟩)) ∧ w.cell? ⟨b, 1, none⟩ = some x ∧ Link w c bt (k + 1) x
theorem Link.keep {w w' : World} {c : Int} {bt : Nat} (hk : ∀ a v, w.cell? a = some v → w'.cell? a = some v) : ∀ k u, Link w c bt k u → Link w' c bt k u
  | 0, _, h => h
  | 1, _, h => ⟨h.1, hk _ _ h.2⟩
  | k + 2, _, ⟨b, x, h1, h2, h3⟩ => ⟨b, x, h1, hk _ _ h2, Link.keep hk (k + 1) x h3⟩
theorem Link.ne_nil {w : World} {c : Int} {bt : Nat} : ∀ k u, Link w c bt k u → ∃ t v, u = .iface t v
  | 0, _, h => ⟨_, _, h⟩
  | 1, _, h => ⟨_, _, h.1⟩
  | _ + 2, _, ⟨_, _, h1, _⟩ => ⟨_, _, h1⟩

set_option maxHeartbeats 1000000 in
/-- errors.as at an error whose own type is the target's: the target is set. -/
theorem as_hit_PTrouble (e : Addr) (t : Addr) (b : Nat) (tv : Value) (old : Value) (w : World) (hb : w.cell? ⟨b, 0, none⟩ = some (.pointer (some t))) (ht : w.cell? t = some old) (hf : w.frozen? t = false) :
    Calls Tryd.prog 39 #[.iface 41 (.pointer (some e)), tv, .agg #[.pointer (some ⟨2, 45, none⟩), .pointer (some ⟨b, 0, none⟩), .int .u64 150], (.iface 90 (.agg #[.pointer (some ⟨2, 41, none⟩)]))] w fun ev w' => ev = .returned (.bool true) ∧
      w' = ((w.alloc (.cells #[.pointer (some ⟨2, 45, none⟩), .pointer (some ⟨b, 0, none⟩), .int .u64 150] 76)).alloc (.cells #[.pointer (some e)] 41)).setCell t (.pointer (some e)) := by
  have x1 := @run_callFunc_extern Tryd.prog 34 _ ReflectliteType.typeOf Tryd.func34 (by kernel_rfl) (by kernel_rfl) (by kernel_rfl) (by kernel_rfl)
  have x2 := @run_callFunc_extern Tryd.prog 77 _ (ReflectliteType.relation "AssignableTo" ReflectliteType.assignableTo) Tryd.func77 (by kernel_rfl) (by kernel_rfl) (by kernel_rfl) (by kernel_rfl)
  have x3 := @run_callFunc_extern Tryd.prog 43 _ (ReflectliteValue.method (ReflectliteValue.valueError "reflectlite.Value.Elem" 0) ReflectliteValue.elem) Tryd.func43 (by kernel_rfl) (by kernel_rfl) (by kernel_rfl) (by kernel_rfl)
  have x4 := @run_callFunc_extern Tryd.prog 36 _ (fun args => ReflectliteValue.unpack (args.getD 0 (.tuple #[]))) Tryd.func36 (by kernel_rfl) (by kernel_rfl) (by kernel_rfl) (by kernel_rfl)
  have x5 := @run_callFunc_extern Tryd.prog 44 _ ReflectliteValue.set Tryd.func44 (by kernel_rfl) (by kernel_rfl) (by kernel_rfl) (by kernel_rfl)
  have f1 := typeOfPTrouble
  have f2 := mAssignableTo
  have f3 := assign_PTrouble_PTrouble
  have f4 := valueOfPTrouble
  have hbl := World.block_lt_of_cell? w _ hb
  have htl := World.block_lt_of_cell? w _ ht
  have el := elemVPPTrouble ⟨b, 0, none⟩ t (w.alloc (.cells #[.pointer (some ⟨2, 45, none⟩), .pointer (some ⟨b, 0, none⟩), .int .u64 150] 76)) (by rw [World.cell?_alloc_lt _ _ _ hbl]; exact hb)
  have st := setPTrouble t ⟨w.heap.size + 1, 0, none⟩ e old ((w.alloc (.cells #[.pointer (some ⟨2, 45, none⟩), .pointer (some ⟨b, 0, none⟩), .int .u64 150] 76)).alloc (.cells #[.pointer (some e)] 41)) (by rw [World.cell?_alloc_at _ _ _ _ (by simp)]; rfl)
    (by rw [World.cell?_alloc_lt _ _ t (by simp; omega), World.cell?_alloc_lt _ _ t htl]; exact ht)
    (by rw [World.frozen?_alloc_old _ _ t (by simp; omega), World.frozen?_alloc_old _ _ t (Nat.ne_of_lt htl)]; exact hf)
  go_enter Tryd.func39, Tryd.ntmps39
  go_wp2
  refine wp_loop_rounds 1 ?_
  rw [rounds_succ]
  go_wp2
  go_ret
  exact ⟨rfl, rfl⟩

set_option maxHeartbeats 1000000 in
/-- errors.as at an error whose own type is the target's: the target is set. -/
theorem as_hit_Class (e : Int) (t : Addr) (b : Nat) (tv : Value) (old : Value) (w : World) (hb : w.cell? ⟨b, 0, none⟩ = some (.pointer (some t))) (ht : w.cell? t = some old) (hf : w.frozen? t = false) :
    Calls Tryd.prog 39 #[.iface 38 (.int .i64 e), tv, .agg #[.pointer (some ⟨2, 59, none⟩), .pointer (some ⟨b, 0, none⟩), .int .u64 150], (.iface 90 (.agg #[.pointer (some ⟨2, 38, none⟩)]))] w fun ev w' => ev = .returned (.bool true) ∧
      w' = ((w.alloc (.cells #[.pointer (some ⟨2, 59, none⟩), .pointer (some ⟨b, 0, none⟩), .int .u64 150] 76)).alloc (.cells #[.int .i64 e] 38)).setCell t (.int .i64 e) := by
  have x1 := @run_callFunc_extern Tryd.prog 34 _ ReflectliteType.typeOf Tryd.func34 (by kernel_rfl) (by kernel_rfl) (by kernel_rfl) (by kernel_rfl)
  have x2 := @run_callFunc_extern Tryd.prog 77 _ (ReflectliteType.relation "AssignableTo" ReflectliteType.assignableTo) Tryd.func77 (by kernel_rfl) (by kernel_rfl) (by kernel_rfl) (by kernel_rfl)
  have x3 := @run_callFunc_extern Tryd.prog 43 _ (ReflectliteValue.method (ReflectliteValue.valueError "reflectlite.Value.Elem" 0) ReflectliteValue.elem) Tryd.func43 (by kernel_rfl) (by kernel_rfl) (by kernel_rfl) (by kernel_rfl)
  have x4 := @run_callFunc_extern Tryd.prog 36 _ (fun args => ReflectliteValue.unpack (args.getD 0 (.tuple #[]))) Tryd.func36 (by kernel_rfl) (by kernel_rfl) (by kernel_rfl) (by kernel_rfl)
  have x5 := @run_callFunc_extern Tryd.prog 44 _ ReflectliteValue.set Tryd.func44 (by kernel_rfl) (by kernel_rfl) (by kernel_rfl) (by kernel_rfl)
  have f1 := typeOfClass
  have f2 := mAssignableTo
  have f3 := assign_Class_Class
  have f4 := valueOfClass
  have hbl := World.block_lt_of_cell? w _ hb
  have htl := World.block_lt_of_cell? w _ ht
  have el := elemVPClass ⟨b, 0, none⟩ t (w.alloc (.cells #[.pointer (some ⟨2, 59, none⟩), .pointer (some ⟨b, 0, none⟩), .int .u64 150] 76)) (by rw [World.cell?_alloc_lt _ _ _ hbl]; exact hb)
  have st := setClass t ⟨w.heap.size + 1, 0, none⟩ e old ((w.alloc (.cells #[.pointer (some ⟨2, 59, none⟩), .pointer (some ⟨b, 0, none⟩), .int .u64 150] 76)).alloc (.cells #[.int .i64 e] 38)) (by rw [World.cell?_alloc_at _ _ _ _ (by simp)]; rfl)
    (by rw [World.cell?_alloc_lt _ _ t (by simp; omega), World.cell?_alloc_lt _ _ t htl]; exact ht)
    (by rw [World.frozen?_alloc_old _ _ t (by simp; omega), World.frozen?_alloc_old _ _ t (Nat.ne_of_lt htl)]; exact hf)
  go_enter Tryd.func39, Tryd.ntmps39
  go_wp2
  refine wp_loop_rounds 1 ?_
  rw [rounds_succ]
  go_wp2
  go_ret
  exact ⟨rfl, rfl⟩

set_option maxHeartbeats 1000000 in
/-- errors.as at an error whose own type is the target's: the target is set. -/
theorem as_hit_PCall (e : Addr) (t : Addr) (b : Nat) (tv : Value) (old : Value) (w : World) (hb : w.cell? ⟨b, 0, none⟩ = some (.pointer (some t))) (ht : w.cell? t = some old) (hf : w.frozen? t = false) :
    Calls Tryd.prog 39 #[.iface 42 (.pointer (some e)), tv, .agg #[.pointer (some ⟨2, 49, none⟩), .pointer (some ⟨b, 0, none⟩), .int .u64 150], (.iface 90 (.agg #[.pointer (some ⟨2, 42, none⟩)]))] w fun ev w' => ev = .returned (.bool true) ∧
      w' = ((w.alloc (.cells #[.pointer (some ⟨2, 49, none⟩), .pointer (some ⟨b, 0, none⟩), .int .u64 150] 76)).alloc (.cells #[.pointer (some e)] 42)).setCell t (.pointer (some e)) := by
  have x1 := @run_callFunc_extern Tryd.prog 34 _ ReflectliteType.typeOf Tryd.func34 (by kernel_rfl) (by kernel_rfl) (by kernel_rfl) (by kernel_rfl)
  have x2 := @run_callFunc_extern Tryd.prog 77 _ (ReflectliteType.relation "AssignableTo" ReflectliteType.assignableTo) Tryd.func77 (by kernel_rfl) (by kernel_rfl) (by kernel_rfl) (by kernel_rfl)
  have x3 := @run_callFunc_extern Tryd.prog 43 _ (ReflectliteValue.method (ReflectliteValue.valueError "reflectlite.Value.Elem" 0) ReflectliteValue.elem) Tryd.func43 (by kernel_rfl) (by kernel_rfl) (by kernel_rfl) (by kernel_rfl)
  have x4 := @run_callFunc_extern Tryd.prog 36 _ (fun args => ReflectliteValue.unpack (args.getD 0 (.tuple #[]))) Tryd.func36 (by kernel_rfl) (by kernel_rfl) (by kernel_rfl) (by kernel_rfl)
  have x5 := @run_callFunc_extern Tryd.prog 44 _ ReflectliteValue.set Tryd.func44 (by kernel_rfl) (by kernel_rfl) (by kernel_rfl) (by kernel_rfl)
  have f1 := typeOfPCall
  have f2 := mAssignableTo
  have f3 := assign_PCall_PCall
  have f4 := valueOfPCall
  have hbl := World.block_lt_of_cell? w _ hb
  have htl := World.block_lt_of_cell? w _ ht
  have el := elemVPPCall ⟨b, 0, none⟩ t (w.alloc (.cells #[.pointer (some ⟨2, 49, none⟩), .pointer (some ⟨b, 0, none⟩), .int .u64 150] 76)) (by rw [World.cell?_alloc_lt _ _ _ hbl]; exact hb)
  have st := setPCall t ⟨w.heap.size + 1, 0, none⟩ e old ((w.alloc (.cells #[.pointer (some ⟨2, 49, none⟩), .pointer (some ⟨b, 0, none⟩), .int .u64 150] 76)).alloc (.cells #[.pointer (some e)] 42)) (by rw [World.cell?_alloc_at _ _ _ _ (by simp)]; rfl)
    (by rw [World.cell?_alloc_lt _ _ t (by simp; omega), World.cell?_alloc_lt _ _ t htl]; exact ht)
    (by rw [World.frozen?_alloc_old _ _ t (by simp; omega), World.frozen?_alloc_old _ _ t (Nat.ne_of_lt htl)]; exact hf)
  go_enter Tryd.func39, Tryd.ntmps39
  go_wp2
  refine wp_loop_rounds 1 ?_
  rw [rounds_succ]
  go_wp2
  go_ret
  exact ⟨rfl, rfl⟩

set_option maxHeartbeats 2000000 in
/-- errors.as along a chain that has the target's type: the target is set. -/
theorem as_link_PTrouble (c : Int) (bt k : Nat) (u : Value) (hk1 : 1 ≤ k) (t : Addr) (b : Nat) (tv : Value) (old : Value) (w : World) (hu : Link w c bt k u) (hb : w.cell? ⟨b, 0, none⟩ = some (.pointer (some t))) (ht : w.cell? t = some old) (hf : w.frozen? t = false) :
    Calls Tryd.prog 39 #[u, tv, .agg #[.pointer (some ⟨2, 45, none⟩), .pointer (some ⟨b, 0, none⟩), .int .u64 150], (.iface 90 (.agg #[.pointer (some ⟨2, 41, none⟩)]))] w fun ev w' => ev = .returned (.bool true) ∧
      w' = ((w.alloc (.cells #[.pointer (some ⟨2, 45, none⟩), .pointer (some ⟨b, 0, none⟩), .int .u64 150] 76)).alloc (.cells #[.pointer (some ⟨bt, 0, none⟩)] 41)).setCell t (.pointer (some ⟨bt, 0, none⟩)) := by
  have x1 := @run_callFunc_extern Tryd.prog 34 _ ReflectliteType.typeOf Tryd.func34 (by kernel_rfl) (by kernel_rfl) (by kernel_rfl) (by kernel_rfl)
  have x2 := @run_callFunc_extern Tryd.prog 77 _ (ReflectliteType.relation "AssignableTo" ReflectliteType.assignableTo) Tryd.func77 (by kernel_rfl) (by kernel_rfl) (by kernel_rfl) (by kernel_rfl)
  have x3 := @run_callFunc_extern Tryd.prog 43 _ (ReflectliteValue.method (ReflectliteValue.valueError "reflectlite.Value.Elem" 0) ReflectliteValue.elem) Tryd.func43 (by kernel_rfl) (by kernel_rfl) (by kernel_rfl) (by kernel_rfl)
  have x4 := @run_callFunc_extern Tryd.prog 36 _ (fun args => ReflectliteValue.unpack (args.getD 0 (.tuple #[]))) Tryd.func36 (by kernel_rfl) (by kernel_rfl) (by kernel_rfl) (by kernel_rfl)
  have x5 := @run_callFunc_extern Tryd.prog 44 _ ReflectliteValue.set Tryd.func44 (by kernel_rfl) (by kernel_rfl) (by kernel_rfl) (by kernel_rfl)
  have f2 := mAssignableTo
  have f4 := valueOfPTrouble
  have gPTrouble1 := typeOfPTrouble
  have gPTrouble2 := assign_PTrouble_PTrouble
  have gPTrouble3 := ta_PTrouble_IAs
  have gPTrouble4 := ta_PTrouble_IUnw
  have gPCall1 := typeOfPCall
  have gPCall2 := assign_PCall_PTrouble
  have gPCall3 := ta_PCall_IAs
  have gPCall4 := ta_PCall_IUnw
  have gClass1 := typeOfClass
  have gClass2 := assign_Class_PTrouble
  have m1 := mUnwrapT
  have m2 := mUnwrapC
  have hbl := World.block_lt_of_cell? w _ hb
  have htl := World.block_lt_of_cell? w _ ht
  have el := elemVPPTrouble ⟨b, 0, none⟩ t (w.alloc (.cells #[.pointer (some ⟨2, 45, none⟩), .pointer (some ⟨b, 0, none⟩), .int .u64 150] 76)) (by rw [World.cell?_alloc_lt _ _ _ hbl]; exact hb)
  have st := setPTrouble t ⟨w.heap.size + 1, 0, none⟩ ⟨bt, 0, none⟩ old ((w.alloc (.cells #[.pointer (some ⟨2, 45, none⟩), .pointer (some ⟨b, 0, none⟩), .int .u64 150] 76)).alloc (.cells #[.pointer (some ⟨bt, 0, none⟩)] 41)) (by rw [World.cell?_alloc_at _ _ _ _ (by simp)]; rfl)
    (by rw [World.cell?_alloc_lt _ _ t (by simp; omega), World.cell?_alloc_lt _ _ t htl]; exact ht)
    (by rw [World.frozen?_alloc_old _ _ t (by simp; omega), World.frozen?_alloc_old _ _ t (Nat.ne_of_lt htl)]; exact hf)
  have hu' : Link (w.alloc (.cells #[.pointer (some ⟨2, 45, none⟩), .pointer (some ⟨b, 0, none⟩), .int .u64 150] 76)) c bt k u :=
    hu.keep (fun a v hv => by rw [World.cell?_alloc_lt _ _ _ (World.block_lt_of_cell? w _ hv)]; exact hv)
  have HU := Lib.hid hu'; clear hu' hu
  go_enter Tryd.func39, Tryd.ntmps39
  go_wp2
  go_loopg [0] k (fun g u wr => 1 ≤ g ∧ wr = w.alloc (.cells #[.pointer (some ⟨2, 45, none⟩), .pointer (some ⟨b, 0, none⟩), .int .u64 150] 76) ∧ Link (w.alloc (.cells #[.pointer (some ⟨2, 45, none⟩), .pointer (some ⟨b, 0, none⟩), .int .u64 150] 76)) c bt g u)
  case atStart => exact ⟨hk1, rfl, HU.out⟩
  case round =>
    obtain ⟨hg, rfl, hl⟩ := hrel
    match gk, hl with
    | 0, hl => exact absurd hg (by omega)
    | 1, ⟨e, h0⟩ =>
      subst e
      go_wp2
      go_ret
      exact ⟨rfl, rfl⟩
    | g + 2, ⟨b', x, e, h1, h2⟩ =>
      subst e
      obtain ⟨tx, vx, rfl⟩ := h2.ne_nil
      have H2 := Lib.hid h2; clear h2
      go_wp2_with (go_at_call 25; refine (callUnwrap_calls _ _ _ h1).mono ?_; rintro e w' ⟨rfl, rfl⟩)
      go_roundg (g + 1)
      case rel => exact ⟨by omega, rfl, H2.out⟩
      case measure => omega

set_option maxHeartbeats 2000000 in
/-- errors.as along a chain that has the target's type: the target is set. -/
theorem as_link_Class (c : Int) (bt k : Nat) (u : Value) (hc : (c == 0) = false) (t : Addr) (b : Nat) (tv : Value) (old : Value) (w : World) (hu : Link w c bt k u) (hb : w.cell? ⟨b, 0, none⟩ = some (.pointer (some t))) (ht : w.cell? t = some old) (hf : w.frozen? t = false) :
    Calls Tryd.prog 39 #[u, tv, .agg #[.pointer (some ⟨2, 59, none⟩), .pointer (some ⟨b, 0, none⟩), .int .u64 150], (.iface 90 (.agg #[.pointer (some ⟨2, 38, none⟩)]))] w fun ev w' => ev = .returned (.bool true) ∧
      w' = ((w.alloc (.cells #[.pointer (some ⟨2, 59, none⟩), .pointer (some ⟨b, 0, none⟩), .int .u64 150] 76)).alloc (.cells #[.int .i64 c] 38)).setCell t (.int .i64 c) := by
  have x1 := @run_callFunc_extern Tryd.prog 34 _ ReflectliteType.typeOf Tryd.func34 (by kernel_rfl) (by kernel_rfl) (by kernel_rfl) (by kernel_rfl)
  have x2 := @run_callFunc_extern Tryd.prog 77 _ (ReflectliteType.relation "AssignableTo" ReflectliteType.assignableTo) Tryd.func77 (by kernel_rfl) (by kernel_rfl) (by kernel_rfl) (by kernel_rfl)
  have x3 := @run_callFunc_extern Tryd.prog 43 _ (ReflectliteValue.method (ReflectliteValue.valueError "reflectlite.Value.Elem" 0) ReflectliteValue.elem) Tryd.func43 (by kernel_rfl) (by kernel_rfl) (by kernel_rfl) (by kernel_rfl)
  have x4 := @run_callFunc_extern Tryd.prog 36 _ (fun args => ReflectliteValue.unpack (args.getD 0 (.tuple #[]))) Tryd.func36 (by kernel_rfl) (by kernel_rfl) (by kernel_rfl) (by kernel_rfl)
  have x5 := @run_callFunc_extern Tryd.prog 44 _ ReflectliteValue.set Tryd.func44 (by kernel_rfl) (by kernel_rfl) (by kernel_rfl) (by kernel_rfl)
  have f2 := mAssignableTo
  have f4 := valueOfClass
  have gPTrouble1 := typeOfPTrouble
  have gPTrouble2 := assign_PTrouble_Class
  have gPTrouble3 := ta_PTrouble_IAs
  have gPTrouble4 := ta_PTrouble_IUnw
  have gPCall1 := typeOfPCall
  have gPCall2 := assign_PCall_Class
  have gPCall3 := ta_PCall_IAs
  have gPCall4 := ta_PCall_IUnw
  have gClass1 := typeOfClass
  have gClass2 := assign_Class_Class
  have m1 := mUnwrapT
  have m2 := mUnwrapC
  have hbl := World.block_lt_of_cell? w _ hb
  have htl := World.block_lt_of_cell? w _ ht
  have el := elemVPClass ⟨b, 0, none⟩ t (w.alloc (.cells #[.pointer (some ⟨2, 59, none⟩), .pointer (some ⟨b, 0, none⟩), .int .u64 150] 76)) (by rw [World.cell?_alloc_lt _ _ _ hbl]; exact hb)
  have st := setClass t ⟨w.heap.size + 1, 0, none⟩ c old ((w.alloc (.cells #[.pointer (some ⟨2, 59, none⟩), .pointer (some ⟨b, 0, none⟩), .int .u64 150] 76)).alloc (.cells #[.int .i64 c] 38)) (by rw [World.cell?_alloc_at _ _ _ _ (by simp)]; rfl)
    (by rw [World.cell?_alloc_lt _ _ t (by simp; omega), World.cell?_alloc_lt _ _ t htl]; exact ht)
    (by rw [World.frozen?_alloc_old _ _ t (by simp; omega), World.frozen?_alloc_old _ _ t (Nat.ne_of_lt htl)]; exact hf)
  have hu' : Link (w.alloc (.cells #[.pointer (some ⟨2, 59, none⟩), .pointer (some ⟨b, 0, none⟩), .int .u64 150] 76)) c bt k u :=
    hu.keep (fun a v hv => by rw [World.cell?_alloc_lt _ _ _ (World.block_lt_of_cell? w _ hv)]; exact hv)
  have HU := Lib.hid hu'; clear hu' hu
  go_enter Tryd.func39, Tryd.ntmps39
  go_wp2
  go_loopg [0] k (fun g u wr => wr = w.alloc (.cells #[.pointer (some ⟨2, 59, none⟩), .pointer (some ⟨b, 0, none⟩), .int .u64 150] 76) ∧ Link (w.alloc (.cells #[.pointer (some ⟨2, 59, none⟩), .pointer (some ⟨b, 0, none⟩), .int .u64 150] 76)) c bt g u)
  case atStart => exact ⟨rfl, HU.out⟩
  case round =>
    obtain ⟨rfl, hl⟩ := hrel
    match gk, hl with
    | 0, hl =>
      have e : _ = _ := hl
      subst e
      go_wp2
      go_ret
      exact ⟨rfl, rfl⟩
    | 1, ⟨e, h0⟩ =>
      subst e
      go_wp2_with (go_at_call 23; refine (troubleUnwrap_calls _ _ _ h0 hc).mono ?_; rintro e w' ⟨rfl, rfl⟩)
      go_roundg 0
      case rel => exact ⟨rfl, rfl⟩
      case measure => omega
    | g + 2, ⟨b', x, e, h1, h2⟩ =>
      subst e
      obtain ⟨tx, vx, rfl⟩ := h2.ne_nil
      have H2 := Lib.hid h2; clear h2
      go_wp2_with (go_at_call 25; refine (callUnwrap_calls _ _ _ h1).mono ?_; rintro e w' ⟨rfl, rfl⟩)
      go_roundg (g + 1)
      case rel => exact ⟨rfl, H2.out⟩
      case measure => omega

set_option maxHeartbeats 2000000 in
/-- errors.as along a chain that has not the target's type: false. -/
theorem as_miss_PTrouble (c : Int) (bt k : Nat) (u : Value) (hk : k = 0) (b : Nat) (tv : Value) (w : World) (hu : Link w c bt k u) :
    Calls Tryd.prog 39 #[u, tv, .agg #[.pointer (some ⟨2, 45, none⟩), .pointer (some ⟨b, 0, none⟩), .int .u64 150], (.iface 90 (.agg #[.pointer (some ⟨2, 41, none⟩)]))] w fun ev w' => ev = .returned (.bool false) ∧
      w' = w.alloc (.cells #[.pointer (some ⟨2, 45, none⟩), .pointer (some ⟨b, 0, none⟩), .int .u64 150] 76) := by
  have x1 := @run_callFunc_extern Tryd.prog 34 _ ReflectliteType.typeOf Tryd.func34 (by kernel_rfl) (by kernel_rfl) (by kernel_rfl) (by kernel_rfl)
  have x2 := @run_callFunc_extern Tryd.prog 77 _ (ReflectliteType.relation "AssignableTo" ReflectliteType.assignableTo) Tryd.func77 (by kernel_rfl) (by kernel_rfl) (by kernel_rfl) (by kernel_rfl)
  have f2 := mAssignableTo
  have q1 := ta_Class_IAs
  have q2 := ta_Class_IUnw
  have q3 := ta_Class_IUnws
  have gc1 := typeOfClass
  have gc2 := assign_Class_PTrouble
  subst hk
  have e : _ = _ := hu
  subst e
  clear hu
  go_enter Tryd.func39, Tryd.ntmps39
  go_wp2
  refine wp_loop_rounds 1 ?_
  rw [rounds_succ]
  go_wp2
  go_ret
  exact ⟨rfl, rfl⟩

set_option maxHeartbeats 2000000 in
/-- errors.as along a chain that has not the target's type: false. -/
theorem as_miss_PCall (c : Int) (bt k : Nat) (u : Value) (hc : (c == 0) = false) (hk : k ≤ 1) (b : Nat) (tv : Value) (w : World) (hu : Link w c bt k u) :
    Calls Tryd.prog 39 #[u, tv, .agg #[.pointer (some ⟨2, 49, none⟩), .pointer (some ⟨b, 0, none⟩), .int .u64 150], (.iface 90 (.agg #[.pointer (some ⟨2, 42, none⟩)]))] w fun ev w' => ev = .returned (.bool false) ∧
      w' = w.alloc (.cells #[.pointer (some ⟨2, 49, none⟩), .pointer (some ⟨b, 0, none⟩), .int .u64 150] 76) := by
  have x1 := @run_callFunc_extern Tryd.prog 34 _ ReflectliteType.typeOf Tryd.func34 (by kernel_rfl) (by kernel_rfl) (by kernel_rfl) (by kernel_rfl)
  have x2 := @run_callFunc_extern Tryd.prog 77 _ (ReflectliteType.relation "AssignableTo" ReflectliteType.assignableTo) Tryd.func77 (by kernel_rfl) (by kernel_rfl) (by kernel_rfl) (by kernel_rfl)
  have f2 := mAssignableTo
  have q1 := ta_Class_IAs
  have q2 := ta_Class_IUnw
  have q3 := ta_Class_IUnws
  have gc1 := typeOfClass
  have gc2 := assign_Class_PCall
  have gPTrouble1 := typeOfPTrouble
  have gPTrouble2 := assign_PTrouble_PCall
  have gPTrouble3 := ta_PTrouble_IAs
  have gPTrouble4 := ta_PTrouble_IUnw
  have m1 := mUnwrapT
  have hu' : Link (w.alloc (.cells #[.pointer (some ⟨2, 49, none⟩), .pointer (some ⟨b, 0, none⟩), .int .u64 150] 76)) c bt k u :=
    hu.keep (fun a v hv => by rw [World.cell?_alloc_lt _ _ _ (World.block_lt_of_cell? w _ hv)]; exact hv)
  have HU := Lib.hid hu'; clear hu' hu
  go_enter Tryd.func39, Tryd.ntmps39
  go_wp2
  go_loopg [0] k (fun g u wr => g ≤ 1 ∧ wr = w.alloc (.cells #[.pointer (some ⟨2, 49, none⟩), .pointer (some ⟨b, 0, none⟩), .int .u64 150] 76) ∧ Link (w.alloc (.cells #[.pointer (some ⟨2, 49, none⟩), .pointer (some ⟨b, 0, none⟩), .int .u64 150] 76)) c bt g u)
  case atStart => exact ⟨hk, rfl, HU.out⟩
  case round =>
    obtain ⟨hg, rfl, hl⟩ := hrel
    match gk, hl with
    | 0, hl =>
      have e : _ = _ := hl
      subst e
      go_wp2
      go_ret
      exact ⟨rfl, rfl⟩
    | 1, ⟨e, h0⟩ =>
      subst e
      go_wp2_with (go_at_call 23; refine (troubleUnwrap_calls _ _ _ h0 hc).mono ?_; rintro e w' ⟨rfl, rfl⟩)
      go_roundg 0
      case rel => exact ⟨by omega, rfl, rfl⟩
      case measure => omega
    | g + 2, hl => exact absurd hg (by omega)

set_option maxHeartbeats 1000000 in
/-- errors.As, whatever errors.as answers. -/
theorem As_PTrouble (tu : TypeId) (vu : Value) (t : Addr) (w : World) (R : Bool → World → Prop) (hg : w.cell? ⟨0, 0, none⟩ = some (.iface 90 (.agg #[.pointer (some ⟨2, 26, none⟩)])))
    (has : Calls Tryd.prog 39 #[.iface tu vu, .iface 45 (.pointer (some t)), .agg #[.pointer (some ⟨2, 45, none⟩), .pointer (some ⟨w.heap.size, 0, none⟩), .int .u64 150], (.iface 90 (.agg #[.pointer (some ⟨2, 41, none⟩)]))] ((w.alloc (.cells #[.pointer (some t)] 45)).alloc (.cells #[.pointer (some ⟨2, 45, none⟩), .pointer (some ⟨w.heap.size, 0, none⟩), .int .u64 150] 76)) fun ev w' => ∃ x, ev = .returned (.bool x) ∧ R x w') :
    Calls Tryd.prog 21 #[.iface tu vu, .iface 45 (.pointer (some t))] w fun ev w' => ∃ x, ev = .returned (.bool x) ∧ R x w' := by
  have x1 := @run_callFunc_extern Tryd.prog 36 _ (fun args => ReflectliteValue.unpack (args.getD 0 (.tuple #[]))) Tryd.func36 (by kernel_rfl) (by kernel_rfl) (by kernel_rfl) (by kernel_rfl)
  have x2 := @run_callFunc_extern Tryd.prog 37 _ (ReflectliteValue.methodAny (ReflectliteValue.valueError "reflectlite.Value.Type" 0) (fun t _ _ _ => ReflectliteType.toType t)) Tryd.func37 (by kernel_rfl) (by kernel_rfl) (by kernel_rfl) (by kernel_rfl)
  have x3 := @run_callFunc_extern Tryd.prog 38 _ (ReflectliteValue.method (ReflectliteValue.valueError "reflectlite.Value.IsNil" 0) ReflectliteValue.isNil) Tryd.func38 (by kernel_rfl) (by kernel_rfl) (by kernel_rfl) (by kernel_rfl)
  have x4 := @run_callFunc_extern Tryd.prog 69 _ (ReflectliteType.abiMethod fun t => do pure (.int .u8 (← Rtype.kind t))) Tryd.func69 (by kernel_rfl) (by kernel_rfl) (by kernel_rfl) (by kernel_rfl)
  have x5 := @run_callFunc_extern Tryd.prog 79 _ (ReflectliteType.method ReflectliteType.elem) Tryd.func79 (by kernel_rfl) (by kernel_rfl) (by kernel_rfl) (by kernel_rfl)
  have x6 := @run_callFunc_extern Tryd.prog 80 _ (ReflectliteType.relation "Implements" ReflectliteType.implements_) Tryd.func80 (by kernel_rfl) (by kernel_rfl) (by kernel_rfl) (by kernel_rfl)
  have f1 := valueOfPPTrouble
  have f2 := typePPTrouble
  have f3 := mKind
  have f4 := mElem
  have f5 := mImplements
  have f6 := kindPPTrouble
  have f7 := kindPTrouble
  have f8 := elemPPTrouble
  have f9 := implPTrouble
  have n8 := isNilPPTrouble ⟨w.heap.size, 0, none⟩ t ((w.alloc (.cells #[.pointer (some t)] 45)).alloc (.cells #[.pointer (some ⟨2, 45, none⟩), .pointer (some ⟨w.heap.size, 0, none⟩), .int .u64 150] 76)) (by simp)
  have hlt := World.block_lt_of_cell? w _ hg
  have hg2 : ((w.alloc (.cells #[.pointer (some t)] 45)).alloc (.cells #[.pointer (some ⟨2, 45, none⟩), .pointer (some ⟨w.heap.size, 0, none⟩), .int .u64 150] 76)).cell? ⟨0, 0, none⟩ = some (.iface 90 (.agg #[.pointer (some ⟨2, 26, none⟩)])) := by
    rw [World.cell?_alloc_lt _ _ ⟨0, 0, none⟩ (by simp), World.cell?_alloc_lt _ _ ⟨0, 0, none⟩ hlt]; exact hg
  have HAS := Lib.hid has; clear has
  go_enter Tryd.func21, Tryd.ntmps21
  go_wp2_with (go_at_call 39; refine (HAS.out).mono ?_; rintro e w' ⟨x, rfl, hR⟩)
  go_ret
  exact ⟨x, rfl, hR⟩

set_option maxHeartbeats 1000000 in
/-- errors.As, whatever errors.as answers. -/
theorem As_PCall (tu : TypeId) (vu : Value) (t : Addr) (w : World) (R : Bool → World → Prop) (hg : w.cell? ⟨0, 0, none⟩ = some (.iface 90 (.agg #[.pointer (some ⟨2, 26, none⟩)])))
    (has : Calls Tryd.prog 39 #[.iface tu vu, .iface 49 (.pointer (some t)), .agg #[.pointer (some ⟨2, 49, none⟩), .pointer (some ⟨w.heap.size, 0, none⟩), .int .u64 150], (.iface 90 (.agg #[.pointer (some ⟨2, 42, none⟩)]))] ((w.alloc (.cells #[.pointer (some t)] 49)).alloc (.cells #[.pointer (some ⟨2, 49, none⟩), .pointer (some ⟨w.heap.size, 0, none⟩), .int .u64 150] 76)) fun ev w' => ∃ x, ev = .returned (.bool x) ∧ R x w') :
    Calls Tryd.prog 21 #[.iface tu vu, .iface 49 (.pointer (some t))] w fun ev w' => ∃ x, ev = .returned (.bool x) ∧ R x w' := by
  have x1 := @run_callFunc_extern Tryd.prog 36 _ (fun args => ReflectliteValue.unpack (args.getD 0 (.tuple #[]))) Tryd.func36 (by kernel_rfl) (by kernel_rfl) (by kernel_rfl) (by kernel_rfl)
  have x2 := @run_callFunc_extern Tryd.prog 37 _ (ReflectliteValue.methodAny (ReflectliteValue.valueError "reflectlite.Value.Type" 0) (fun t _ _ _ => ReflectliteType.toType t)) Tryd.func37 (by kernel_rfl) (by kernel_rfl) (by kernel_rfl) (by kernel_rfl)
  have x3 := @run_callFunc_extern Tryd.prog 38 _ (ReflectliteValue.method (ReflectliteValue.valueError "reflectlite.Value.IsNil" 0) ReflectliteValue.isNil) Tryd.func38 (by kernel_rfl) (by kernel_rfl) (by kernel_rfl) (by kernel_rfl)
  have x4 := @run_callFunc_extern Tryd.prog 69 _ (ReflectliteType.abiMethod fun t => do pure (.int .u8 (← Rtype.kind t))) Tryd.func69 (by kernel_rfl) (by kernel_rfl) (by kernel_rfl) (by kernel_rfl)
  have x5 := @run_callFunc_extern Tryd.prog 79 _ (ReflectliteType.method ReflectliteType.elem) Tryd.func79 (by kernel_rfl) (by kernel_rfl) (by kernel_rfl) (by kernel_rfl)
  have x6 := @run_callFunc_extern Tryd.prog 80 _ (ReflectliteType.relation "Implements" ReflectliteType.implements_) Tryd.func80 (by kernel_rfl) (by kernel_rfl) (by kernel_rfl) (by kernel_rfl)
  have f1 := valueOfPPCall
  have f2 := typePPCall
  have f3 := mKind
  have f4 := mElem
  have f5 := mImplements
  have f6 := kindPPCall
  have f7 := kindPCall
  have f8 := elemPPCall
  have f9 := implPCall
  have n8 := isNilPPCall ⟨w.heap.size, 0, none⟩ t ((w.alloc (.cells #[.pointer (some t)] 49)).alloc (.cells #[.pointer (some ⟨2, 49, none⟩), .pointer (some ⟨w.heap.size, 0, none⟩), .int .u64 150] 76)) (by simp)
  have hlt := World.block_lt_of_cell? w _ hg
  have hg2 : ((w.alloc (.cells #[.pointer (some t)] 49)).alloc (.cells #[.pointer (some ⟨2, 49, none⟩), .pointer (some ⟨w.heap.size, 0, none⟩), .int .u64 150] 76)).cell? ⟨0, 0, none⟩ = some (.iface 90 (.agg #[.pointer (some ⟨2, 26, none⟩)])) := by
    rw [World.cell?_alloc_lt _ _ ⟨0, 0, none⟩ (by simp), World.cell?_alloc_lt _ _ ⟨0, 0, none⟩ hlt]; exact hg
  have HAS := Lib.hid has; clear has
  go_enter Tryd.func21, Tryd.ntmps21
  go_wp2_with (go_at_call 39; refine (HAS.out).mono ?_; rintro e w' ⟨x, rfl, hR⟩)
  go_ret
  exact ⟨x, rfl, hR⟩

set_option maxHeartbeats 1000000 in
/-- errors.As, whatever errors.as answers. -/
theorem As_Class (tu : TypeId) (vu : Value) (t : Addr) (w : World) (R : Bool → World → Prop) (hg : w.cell? ⟨0, 0, none⟩ = some (.iface 90 (.agg #[.pointer (some ⟨2, 26, none⟩)])))
    (has : Calls Tryd.prog 39 #[.iface tu vu, .iface 59 (.pointer (some t)), .agg #[.pointer (some ⟨2, 59, none⟩), .pointer (some ⟨w.heap.size, 0, none⟩), .int .u64 150], (.iface 90 (.agg #[.pointer (some ⟨2, 38, none⟩)]))] ((w.alloc (.cells #[.pointer (some t)] 59)).alloc (.cells #[.pointer (some ⟨2, 59, none⟩), .pointer (some ⟨w.heap.size, 0, none⟩), .int .u64 150] 76)) fun ev w' => ∃ x, ev = .returned (.bool x) ∧ R x w') :
    Calls Tryd.prog 21 #[.iface tu vu, .iface 59 (.pointer (some t))] w fun ev w' => ∃ x, ev = .returned (.bool x) ∧ R x w' := by
  have x1 := @run_callFunc_extern Tryd.prog 36 _ (fun args => ReflectliteValue.unpack (args.getD 0 (.tuple #[]))) Tryd.func36 (by kernel_rfl) (by kernel_rfl) (by kernel_rfl) (by kernel_rfl)
  have x2 := @run_callFunc_extern Tryd.prog 37 _ (ReflectliteValue.methodAny (ReflectliteValue.valueError "reflectlite.Value.Type" 0) (fun t _ _ _ => ReflectliteType.toType t)) Tryd.func37 (by kernel_rfl) (by kernel_rfl) (by kernel_rfl) (by kernel_rfl)
  have x3 := @run_callFunc_extern Tryd.prog 38 _ (ReflectliteValue.method (ReflectliteValue.valueError "reflectlite.Value.IsNil" 0) ReflectliteValue.isNil) Tryd.func38 (by kernel_rfl) (by kernel_rfl) (by kernel_rfl) (by kernel_rfl)
  have x4 := @run_callFunc_extern Tryd.prog 69 _ (ReflectliteType.abiMethod fun t => do pure (.int .u8 (← Rtype.kind t))) Tryd.func69 (by kernel_rfl) (by kernel_rfl) (by kernel_rfl) (by kernel_rfl)
  have x5 := @run_callFunc_extern Tryd.prog 79 _ (ReflectliteType.method ReflectliteType.elem) Tryd.func79 (by kernel_rfl) (by kernel_rfl) (by kernel_rfl) (by kernel_rfl)
  have x6 := @run_callFunc_extern Tryd.prog 80 _ (ReflectliteType.relation "Implements" ReflectliteType.implements_) Tryd.func80 (by kernel_rfl) (by kernel_rfl) (by kernel_rfl) (by kernel_rfl)
  have f1 := valueOfPClass
  have f2 := typePClass
  have f3 := mKind
  have f4 := mElem
  have f5 := mImplements
  have f6 := kindPClass
  have f7 := kindClass
  have f8 := elemPClass
  have f9 := implClass
  have n8 := isNilPClass ⟨w.heap.size, 0, none⟩ t ((w.alloc (.cells #[.pointer (some t)] 59)).alloc (.cells #[.pointer (some ⟨2, 59, none⟩), .pointer (some ⟨w.heap.size, 0, none⟩), .int .u64 150] 76)) (by simp)
  have hlt := World.block_lt_of_cell? w _ hg
  have hg2 : ((w.alloc (.cells #[.pointer (some t)] 59)).alloc (.cells #[.pointer (some ⟨2, 59, none⟩), .pointer (some ⟨w.heap.size, 0, none⟩), .int .u64 150] 76)).cell? ⟨0, 0, none⟩ = some (.iface 90 (.agg #[.pointer (some ⟨2, 26, none⟩)])) := by
    rw [World.cell?_alloc_lt _ _ ⟨0, 0, none⟩ (by simp), World.cell?_alloc_lt _ _ ⟨0, 0, none⟩ hlt]; exact hg
  have HAS := Lib.hid has; clear has
  go_enter Tryd.func21, Tryd.ntmps21
  go_wp2_with (go_at_call 39; refine (HAS.out).mono ?_; rintro e w' ⟨x, rfl, hR⟩)
  go_ret
  exact ⟨x, rfl, hR⟩
end Go.Proofs.YtnionifbhmfkoaaDoor
