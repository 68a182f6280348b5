/- errors.Is along a chain of package trouble. -/
import Derived.Test.YtnionifbhmfkoaaDoorTrE
import Derived.Test.YtnionifbhmfkoaaDoorTrG
namespace Go.Proofs.YtnionifbhmfkoaaDoor
open Go.RowKit Go.Extern.Stop Go.Stop Go.Extern
set_option maxRecDepth 100000

theorem run_equalIn_iface_int {P : Program} (w : World) (d : Nat) {ti tn : TypeId} {ms : Array (String × TypeId)} {i : TypeInfo} {k : IntKind} (a b : Int)
    (hi : P.underlying ti = some (.interface ms)) (hn : P.underlying tn = some (.int k)) (hinfo : P.info? tn = some i) (hcomp : i.comparable = true) :
    (Op.equalIn (d + 2) ti (.iface tn (.int k a)) (.iface tn (.int k b))).run P w = .ok (a == b) w := by
  simp [Op.equalIn, run_underlying hi, run_underlying hn, typeInfo, hinfo, hcomp]
theorem run_eql_iface_int {P : Program} (w : World) {ti tn : TypeId} {ms : Array (String × TypeId)} {i : TypeInfo} {k : IntKind} (a b : Int)
    (hi : P.underlying ti = some (.interface ms)) (hn : P.underlying tn = some (.int k)) (hinfo : P.info? tn = some i) (hcomp : i.comparable = true) :
    (binOp .eql ti (.iface tn (.int k a)) (.iface tn (.int k b))).run P w = .ok (.bool (a == b)) w := by
  simp only [binOp]
  simp [Op.equal, Op.maxDepth, run_equalIn_iface_int w 9998 a b hi hn hinfo hcomp]

theorem eq_class (a b : Int) (w : World) : (binOp .eql 26 (.iface 38 (.int .i64 a)) (.iface 38 (.int .i64 b))).run Tryd.prog w = .ok (.bool (a == b)) w := by
  have h : ∃ i, Tryd.prog.info? 38 = some i ∧ i.comparable = true := by
    have h' : (Tryd.prog.info? 38).map (·.comparable) = some true := by kernel_rfl
    obtain ⟨i, h1, h2⟩ := Option.map_eq_some_iff.1 h'
    exact ⟨i, h1, h2⟩
  obtain ⟨i, h1, h2⟩ := h
  exact run_eql_iface_int w a b Tryd.underlying26 Tryd.underlying38 h1 h2
theorem eq_trouble (v : Value) (b : Int) (w : World) : (binOp .eql 26 (.iface 41 v) (.iface 38 (.int .i64 b))).run Tryd.prog w = .ok (.bool false) w := run_eql_iface_types _ _ _ _ Tryd.underlying26 (by decide) w
theorem eq_call (v : Value) (b : Int) (w : World) : (binOp .eql 26 (.iface 42 v) (.iface 38 (.int .i64 b))).run Tryd.prog w = .ok (.bool false) w := run_eql_iface_types _ _ _ _ Tryd.underlying26 (by decide) w

set_option maxHeartbeats 2000000 in
theorem is_calls (c c2 : Int) (bt k : Nat) (u : Value) (w : World) (hc : (c == 0) = false) (hu : Link w c bt k u) :
    Calls Tryd.prog 35 #[u, .iface 38 (.int .i64 c2), .bool true] w fun ev w' => ev = .returned (.bool (c == c2)) ∧ w = w' := by
  have e1 := eq_class
  have e2 := eq_trouble
  have e3 := eq_call
  have q1 := ta_Class_IIs
  have q2 := ta_Class_IUnw
  have q3 := ta_Class_IUnws
  have q4 := ta_PTrouble_IIs
  have q5 := ta_PTrouble_IUnw
  have q6 := ta_PCall_IIs
  have q7 := ta_PCall_IUnw
  have m1 := mUnwrapT
  have m2 := mUnwrapC
  have HU := Lib.hid hu; clear hu
  go_enter Tryd.func35, Tryd.ntmps35
  go_wp2
  go_loopg [0] k (fun g u wr => wr = w ∧ Link w c bt g u)
  case atStart => exact ⟨rfl, HU.out⟩
  case round =>
    obtain ⟨rfl, hl⟩ := hrel
    match gk, hl with
    | 0, hl =>
      have e : _ = _ := hl
      subst e
      cases hcc : (c == c2)
      · go_wp2
        go_ret
        exact ⟨ret_b hcc.symm, rfl⟩
      · go_wp2
        go_ret
        exact ⟨ret_b hcc.symm, rfl⟩
    | 1, ⟨e, h0⟩ =>
      subst e
      go_wp2_with (go_at_call 23; refine (troubleUnwrap_calls _ _ _ h0 hc).mono ?_; rintro e w' ⟨rfl, rfl⟩)
      go_roundg 0
      case rel => exact ⟨rfl, rfl⟩
      case measure => omega
    | g + 2, ⟨b', x, e, h1, h2⟩ =>
      subst e
      obtain ⟨tx, vx, rfl⟩ := h2.ne_nil
      have H2 := Lib.hid h2; clear h2
      go_wp2_with (go_at_call 25; refine (callUnwrap_calls _ _ _ h1).mono ?_; rintro e w' ⟨rfl, rfl⟩)
      go_roundg (g + 1)
      case rel => exact ⟨rfl, H2.out⟩
      case measure => omega

theorem mComp (h : Value) (w : World) : (Go.method 242 90 (.agg #[h]) "Comparable").run Tryd.prog w = .ok (78, .agg #[h]) w := by kernel_rfl
theorem compClass (w : World) : ((ReflectliteType.method fun t => do Rtype.noPackHeld "Comparable" t; (fun a => Value.bool a.comparable) <$> typeInfo t) #[.agg #[.pointer (some ⟨2, 38, none⟩)]]).run Tryd.prog w = .ok (.bool true) w := by kernel_rfl

set_option maxHeartbeats 1000000 in
theorem Is_calls (c c2 : Int) (bt k : Nat) (u : Value) (w : World) (hc : (c == 0) = false) (hu : Link w c bt k u) :
    Calls Tryd.prog 20 #[u, .iface 38 (.int .i64 c2)] w fun ev w' => ev = .returned (.bool (c == c2)) ∧ w = w' := by
  have HI := Lib.hid (is_calls c c2 bt k u w hc hu)
  obtain ⟨tu, vu, rfl⟩ := hu.ne_nil
  have x1 := @run_callFunc_extern Tryd.prog 34 _ ReflectliteType.typeOf Tryd.func34 (by kernel_rfl) (by kernel_rfl) (by kernel_rfl) (by kernel_rfl)
  have x2 := @run_callFunc_extern Tryd.prog 78 _ (ReflectliteType.method fun t => do Rtype.noPackHeld "Comparable" t; pure (.bool (← typeInfo t).comparable)) Tryd.func78 (by kernel_rfl) (by kernel_rfl) (by kernel_rfl) (by kernel_rfl)
  have f1 := typeOfClass
  have f2 := mComp
  have f3 := compClass
  clear hu
  go_enter Tryd.func20, Tryd.ntmps20
  go_wp2_with (go_at_call 35; refine (HI.out).mono ?_; rintro e w' ⟨rfl, rfl⟩)
  go_ret
  exact ⟨rfl, rfl⟩
set_option maxHeartbeats 1000000 in
theorem TIs_calls (c c2 : Int) (bt k : Nat) (u : Value) (w : World) (hc : (c == 0) = false) (hu : Link w c bt k u) :
    Calls Tryd.prog 14 #[u, .int .i64 c2] w fun ev w' => ev = .returned (.bool (c == c2)) ∧ w = w' := by
  have HI := Lib.hid (Is_calls c c2 bt k u w hc hu)
  obtain ⟨tu, vu, rfl⟩ := hu.ne_nil
  clear hu
  cases h2 : (c2 == 0)
  · go_enter Tryd.func14, Tryd.ntmps14
    go_wp2_with (go_at_call 20; refine (HI.out).mono ?_; rintro e w' ⟨rfl, rfl⟩)
    go_ret
    exact ⟨rfl, rfl⟩
  · have HC := Lib.hid (show (c == c2) = false by rw [eq_of_beq h2]; exact hc)
    go_enter Tryd.func14, Tryd.ntmps14
    go_wp2
    go_ret
    exact ⟨ret_b HC.out.symm, rfl⟩
theorem eq_nil_class (b : Int) (w : World) : (binOp .eql 26 .nilIface (.iface 38 (.int .i64 b))).run Tryd.prog w = .ok (.bool false) w := run_eql_iface_nil_left _ _ _ Tryd.underlying26
set_option maxHeartbeats 1000000 in
theorem Is_nil (c2 : Int) (w : World) :
    Calls Tryd.prog 20 #[.nilIface, .iface 38 (.int .i64 c2)] w fun ev w' => ev = .returned (.bool false) ∧ w = w' := by
  have e := eq_nil_class
  go_enter Tryd.func20, Tryd.ntmps20
  go_wp2
  go_ret
  exact ⟨rfl, rfl⟩
set_option maxHeartbeats 1000000 in
theorem TIs_nil (c2 : Int) (w : World) :
    Calls Tryd.prog 14 #[.nilIface, .int .i64 c2] w fun ev w' => ev = .returned (.bool (c2 == 0)) ∧ w = w' := by
  cases h2 : (c2 == 0)
  · go_enter Tryd.func14, Tryd.ntmps14
    go_wp2_with (go_at_call 20; refine (Is_nil _ _).mono ?_; rintro e w' ⟨rfl, rfl⟩)
    go_ret
    exact ⟨rfl, rfl⟩
  · go_enter Tryd.func14, Tryd.ntmps14
    go_wp2
    go_ret
    exact ⟨rfl, rfl⟩
end Go.Proofs.YtnionifbhmfkoaaDoor
