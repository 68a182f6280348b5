/- VecApart, walked. -/
import Derived.Test.YtlgaelndboeapaaDoorVeW
import Derived.Test.YtlgaelndboeapaaDoorVeS
namespace Go.Proofs.YtlgaelndboeapaaDoor
open Go.RowKit Fl
set_option linter.unusedVariables false
set_option maxRecDepth 100000

theorem kept_lt {M : Nat} {w w' : World} {row : Option Nat} (hg : w.grownBy w' row) (h : ∀ k, row = some k → M ≤ k) : Kept (fun b => b < M) w w' := fun a v ho hx => hg.cell hx (fun e => by have := h _ e.symm; omega)
theorem kept_ge {M : Nat} {w w' : World} {row : Option Nat} (hg : w.grownBy w' row) (h : ∀ k, row = some k → k < M) : Kept (fun b => M ≤ b) w w' := fun a v ho hx => hg.cell hx (fun e => by have := h _ e.symm; omega)
theorem Slc.lt {w : World} {ok : Nat → Prop} {s : Value} {n : Nat} {xs : List Value} (h : Slc w ok s n xs) : Slc w (fun b => b < w.heap.size) s n xs := h.keep (Kept.refl _ _) (fun _ h _ => h)
theorem IsV.lts {w : World} {ok : Nat → Prop} {u : Value} {V : VV} (h : IsV w ok u V) : IsV w (fun b => b < w.heap.size) u V := h.wide (fun _ h _ => h)
/-- append to a new, empty slice of what came in, as one step. -/
theorem wpList_append_came {P : Program} (w : World) {ops : Array Oper} {rest : List Oper} {o : Oper} {a : Act} {Q : Exit → Act → World → Prop} (hgd : o.guard = none) (s x : Operand) (t : TypeId) (ho : o.op = .call { callee := .builtin .append, args := #[s, x], argTypes := #[t, t] })
    (base : Nat) (e : TypeId) (i : TypeInfo) (z : Value) (bytes : Nat) (ht : P.underlying t = some (.slice e)) (hi : P.info? e = some i) (hz : i.zero = some z) (hsize : i.size = 1) (hby : i.bytes = bytes) (hzs : z.cells.size = 1)
    (g : Nat) (hsv : a.eval s = .slice (some ⟨g, 0, none⟩) 0 0) (hown : w.ownsRow base e 1 (.slice (some ⟨g, 0, none⟩) 0 0) 0 []) {ok : Nat → Prop} (ao : Option Addr) (m c : Nat) (news : List Value) (hx : a.eval x = .slice ao m c) (hs : Slx w ok (.slice ao m c) m news) (h1 : ∀ u ∈ news, u.oneCell' = true)
    (h63 : m ≤ maxLen) (hbytes : m * bytes ≤ 140737488355328) (hbase : base ≤ w.heap.size)
    (h : ∀ v' w', w'.ownsRow base e 1 v' m news → w.grownBy w' (some g) → wpList P ops Q rest (a.put o.dst v') w') : wpList P ops Q (o :: rest) a w :=
  wpList_plain hgd fun _ hK => by
    obtain ⟨v', w', hr, h2, h3⟩ := run_append_came (P := P) t o.type e i z bytes ht hi hz hsize hby hzs base g hown ao m c news hs h1 h63 hbytes hbase
    have hk := hK _ _ (h v' w' h2 h3)
    suffices hg : Oper.upon P o a _ _ (Result.ok (Next.value v') w') by simpa [Oper.wp, execOp, ho, resolve, invoke, builtin, hsv, hx, hr] using hg
    exact hk
theorem owns_form {w : World} {base size : Nat} {e : TypeId} {v : Value} {n : Nat} {xs : List Value} (h : w.ownsRow base e size v n xs) : ∃ ao cap, v = .slice ao n cap := by
  rcases h.2 with ⟨rfl, rfl⟩ | ⟨g, cap, cur, rfl, _⟩
  · exact ⟨_, _, rfl⟩
  · exact ⟨_, _, rfl⟩
theorem own_empty (w : World) (e : TypeId) (base : Nat) (hb : base ≤ w.heap.size) : (w.alloc (.cells #[] e)).ownsRow base e 1 (.slice (some ⟨w.heap.size, 0, none⟩) 0 0) 0 [] := World.ownsRow_lit (e := e) (size := 1) w #[] 0 hb (by unfold maxLen; omega) rfl
theorem i8s_one (l : List Int) : ∀ u ∈ i8s l, u.oneCell' = true := by intro u hu; simp only [i8s, List.mem_map] at hu; obtain ⟨z, _, rfl⟩ := hu; rfl
theorem i32s_one (l : List Int) : ∀ u ∈ i32s l, u.oneCell' = true := by intro u hu; simp only [i32s, List.mem_map] at hu; obtain ⟨z, _, rfl⟩ := hu; rfl
theorem ints_one (l : List Int) : ∀ u ∈ ints l, u.oneCell' = true := by intro u hu; simp only [ints, List.mem_map] at hu; obtain ⟨z, _, rfl⟩ := hu; rfl

set_option maxHeartbeats 16000000 in
theorem vecApart_core (w : World) (v1 : Value) (s : List Int) (HS1 : Hid (Slc w (fun b => b < w.heap.size) v1 s.length (i8s s))) (HR : Hid (∀ z ∈ s, -128 ≤ z ∧ z ≤ 127)) (v2 : Value) (c : List Int) (HS2 : Hid (Slc w (fun b => b < w.heap.size) v2 c.length (i32s c))) (v3 : Value) (l : List Int) (HS3 : Hid (Slc w (fun b => b < w.heap.size) v3 l.length (ints l))) (HT : Hid (TabAt w))
    (hl1 : s.length ≤ 200) (hl2 : c.length ≤ 200) (hl3 : l.length ≤ 200) (hsm : l.all sm = true) :
    Calls Tryd.prog 7 #[v1, v2, v3] w fun e w' => e = .returned (.bool true) ∧ Below w.heap.size w w' := by
  obtain ⟨i1, a1, a2, a3, a4⟩ := info_parts info_i8
  obtain ⟨i2, b1, b2, b3, b4⟩ := info_parts info_i32
  obtain ⟨i3, c1, c2, c3, c4⟩ := info_parts info_i64
  have HSM := Lib.hid hsm
  have HL1 := Lib.hid (show s.length ≤ 2000000 by omega)
  have HL2 := Lib.hid (show c.length ≤ 2000000 by omega)
  have HL3 := Lib.hid (show l.length ≤ 2000000 by omega)
  have HM1 := Lib.hid (show s.length ≤ maxLen by unfold maxLen; omega)
  have HM2 := Lib.hid (show c.length ≤ maxLen by unfold maxLen; omega)
  have HM3 := Lib.hid (show l.length ≤ maxLen by unfold maxLen; omega)
  have HOKC : Hid ((VV.chars c).ok) := Lib.hid (show c.length ≤ 1048576 by omega)
  have HTL := Lib.hid (show 1 < w.heap.size from World.block_lt_of_cell? w _ (HT.out 0 (by omega)))
  obtain ⟨ao1, cap1, rfl, _⟩ := HS1.out.opened
  obtain ⟨ao2, cap2, rfl, _⟩ := HS2.out.opened
  obtain ⟨ao3, cap3, rfl, _⟩ := HS3.out.opened
  clear hsm
  go_enter Tryd.func7, Tryd.ntmps7
  go_wp2_with fail
  refine (Calls.grow_same (rsmalls_calls _ l _ HS3.out (by have := HL3.out; omega))).mono ?_
  rintro e W0 ⟨rfl, hB0⟩
  rw [HSM.out]
  have HB0 := Lib.hid hB0
  have hsz0 := hB0.size
  clear hB0
  go_wp2_with (at_builtin; refine wpList_append_came _ rfl _ _ 23 rfl w.heap.size 27 i1 (.int .i8 0) 1 Tryd.underlying23 a1 a2 a3 a4 rfl W0.heap.size rfl (own_empty _ _ _ hsz0) ao1 s.length cap1 (i8s s) rfl ((HS1.out.below (HB0.out.alloc hsz0 _)).1) (i8s_one s) HM1.out (by omega) (by simp; omega) ?_)
  intro vx W1 hox hgx
  have HXb := Lib.hid (fun k hk => hox.lt k hk)
  obtain ⟨ax, cx, rfl⟩ := owns_form hox
  have HOX := Lib.hid hox
  have HB1 := Lib.hid (grown_below (HB0.out.alloc hsz0 _) (own_empty W0 27 w.heap.size hsz0) (Nat.le_refl _) (by simp; omega) hgx)
  clear hox hgx
  have hsz1 := HB1.out.size
  go_wp2_with (at_builtin; refine wpList_append_came _ rfl _ _ 51 rfl W1.heap.size 21 i2 (.int .i32 0) 4 Tryd.underlying51 b1 b2 b3 b4 rfl W1.heap.size rfl (own_empty _ _ _ (Nat.le_refl _)) ao2 c.length cap2 (i32s c) rfl ((HS2.out.below (HB1.out.alloc hsz1 _)).1) (i32s_one c) HM2.out (by omega) (by simp) ?_)
  intro vy W2 hoy hgy
  have hb2 : Below W1.heap.size W1 W2 := grown_below (below_new _ _) (own_empty W1 21 W1.heap.size (Nat.le_refl _)) (Nat.le_refl _) (by simp) hgy
  have HYb := Lib.hid (fun k hk => hoy.lt k hk)
  obtain ⟨ay, cy, rfl⟩ := owns_form hoy
  have HOY := Lib.hid hoy
  replace HOX := Lib.hid (owns_below2 HOX.out hb2)
  have HB2 := Lib.hid (HB1.out.trans (hb2.mono HB1.out.size))
  have HBY := Lib.hid hb2
  clear hoy hgy hb2
  have hsz2 := HB2.out.size
  go_wp2_with (at_builtin; refine wpList_append_came _ rfl _ _ 43 rfl W2.heap.size 2 i3 (.int .i64 0) 8 Tryd.underlying43 c1 c2 c3 c4 rfl W2.heap.size rfl (own_empty _ _ _ (Nat.le_refl _)) ao3 l.length cap3 (ints l) rfl ((HS3.out.below (HB2.out.alloc hsz2 _)).1) (ints_one l) HM3.out (by omega) (by simp) ?_)
  intro vz W3 hoz hgz
  have hb3 : Below W2.heap.size W2 W3 := grown_below (below_new _ _) (own_empty W2 2 W2.heap.size (Nat.le_refl _)) (Nat.le_refl _) (by simp) hgz
  have HZb := Lib.hid (fun k hk => hoz.lt k hk)
  obtain ⟨az, cz, rfl⟩ := owns_form hoz
  have HOZ := Lib.hid hoz
  replace HOX := Lib.hid (owns_below2 HOX.out hb3)
  replace HOY := Lib.hid (owns_below2 HOY.out hb3)
  have HB := Lib.hid (HB2.out.trans (hb3.mono HB2.out.size))
  have HBZ := Lib.hid hb3
  clear hoz hgz hb3 hsz0 hsz1 hsz2
  replace HS1 := Lib.hid (HS1.out.below HB.out)
  replace HS2 := Lib.hid (HS2.out.below HB.out)
  replace HS3 := Lib.hid (HS3.out.below HB.out)
  replace HT := Lib.hid (show TabAt W3 from fun j hj => keep_below HB.out _ _ (HT.out j hj))
  have H3 := Lib.hid (Below.refl W3.heap.size W3)
  have h01 := HB1.out.size
  have h12 : W1.heap.size ≤ W2.heap.size := HBY.out.size
  have h23 : W2.heap.size ≤ W3.heap.size := HBZ.out.size
  go_wp2_with fail
  refine (vsmalls_calls _ s _ (Slc.owned HOX.out) HL1.out).mono ?_
  rintro e W4 ⟨u, rfl, hu, hB⟩
  replace HS1 := Lib.hid (HS1.out.below hB)
  replace HS2 := Lib.hid (HS2.out.below hB)
  replace HS3 := Lib.hid (HS3.out.below hB)
  replace HT := Lib.hid (fun j hj => keep_below hB _ _ (HT.out j hj))
  replace HOX := Lib.hid (owns_below2 HOX.out hB)
  replace HOY := Lib.hid (owns_below2 HOY.out hB)
  replace HOZ := Lib.hid (owns_below2 HOZ.out hB)
  replace H3 := Lib.hid (H3.out.trans (hB.mono H3.out.size))
  replace HB := Lib.hid (HB.out.trans (hB.mono HB.out.size))
  have hstu := hu.store
  have HU := Lib.hid hu
  have HG4 := Lib.hid (H3.out.size)
  clear hu
  clear hB
  go_wp2_with fail
  refine (vchars_calls _ c _ (Slc.owned HOY.out) HL2.out).mono ?_
  rintro e W5 ⟨y, rfl, hu, hB⟩
  replace HS1 := Lib.hid (HS1.out.below hB)
  replace HS2 := Lib.hid (HS2.out.below hB)
  replace HS3 := Lib.hid (HS3.out.below hB)
  replace HT := Lib.hid (fun j hj => keep_below hB _ _ (HT.out j hj))
  replace HOX := Lib.hid (owns_below2 HOX.out hB)
  replace HOY := Lib.hid (owns_below2 HOY.out hB)
  replace HOZ := Lib.hid (owns_below2 HOZ.out hB)
  replace H3 := Lib.hid (H3.out.trans (hB.mono H3.out.size))
  replace HU := Lib.hid (HU.out.grow hB)
  replace HB := Lib.hid (HB.out.trans (hB.mono HB.out.size))
  have hsty := hu.store
  have HV := Lib.hid (hu.wide (ok' := fun b => W3.heap.size ≤ b) (fun b _ h => Nat.le_trans HG4.out h))
  clear hu
  clear hB
  have HG5 := Lib.hid (H3.out.size)
  obtain ⟨W6, hWn⟩ : ∃ W6, ((W5.alloc (.cells #[u] 29)).alloc (.cells #[y] 29)) = W6 := ⟨_, rfl⟩
  have hB : Below W5.heap.size W5 W6 := by rw [← hWn]; exact ((below_new _ _).alloc (by simp <;> omega) _)
  replace HS1 := Lib.hid (HS1.out.below hB)
  replace HS2 := Lib.hid (HS2.out.below hB)
  replace HS3 := Lib.hid (HS3.out.below hB)
  replace HT := Lib.hid (fun j hj => keep_below hB _ _ (HT.out j hj))
  replace HOX := Lib.hid (owns_below2 HOX.out hB)
  replace HOY := Lib.hid (owns_below2 HOY.out hB)
  replace HOZ := Lib.hid (owns_below2 HOZ.out hB)
  replace H3 := Lib.hid (H3.out.trans (hB.mono H3.out.size))
  replace HU := Lib.hid (HU.out.grow hB)
  replace HV := Lib.hid (HV.out.grow hB)
  replace HB := Lib.hid (HB.out.trans (hB.mono HB.out.size))
  have HAU := Lib.hid (show At1 W6 W5.heap.size (u) by rw [← hWn]; exact (At1.new W5 (u) 29).below (below_new _ _))
  have HAY := Lib.hid (show At1 W6 (W5.heap.size + 1) (y) by rw [← hWn]; have := At1.new (W5.alloc (.cells #[u] 29)) (y) 29; simpa using this)
  clear hB
  have cHAU := HAU.out.2.1
  have cHAY := HAY.out.2.1
  go_wp2_with fail
  clear hWn
  have HG6 := Lib.hid (H3.out.size)
  refine (vints_yes _ l _ (Slc.owned HOZ.out) HL3.out HSM.out).mono ?_
  clear cHAU cHAY
  rintro e W7 ⟨q, rfl, hu, hB⟩
  replace HS1 := Lib.hid (HS1.out.below hB)
  replace HS2 := Lib.hid (HS2.out.below hB)
  replace HS3 := Lib.hid (HS3.out.below hB)
  replace HT := Lib.hid (fun j hj => keep_below hB _ _ (HT.out j hj))
  replace HOX := Lib.hid (owns_below2 HOX.out hB)
  replace HOY := Lib.hid (owns_below2 HOY.out hB)
  replace HOZ := Lib.hid (owns_below2 HOZ.out hB)
  replace H3 := Lib.hid (H3.out.trans (hB.mono H3.out.size))
  replace HU := Lib.hid (HU.out.grow hB)
  replace HV := Lib.hid (HV.out.grow hB)
  replace HAU := Lib.hid (HAU.out.below hB)
  replace HAY := Lib.hid (HAY.out.below hB)
  replace HB := Lib.hid (HB.out.trans (hB.mono HB.out.size))
  have hstq := hu.store
  have HW := Lib.hid (hu.wide (ok' := fun b => W3.heap.size ≤ b) (fun b _ h => Nat.le_trans HG6.out h))
  clear hu
  clear hB
  have cHAU := HAU.out.2.1
  have cHAY := HAY.out.2.1
  have HG7 := Lib.hid (H3.out.size)
  obtain ⟨W8, hWn⟩ : ∃ W8, (W7.alloc (.cells #[q] 29)) = W8 := ⟨_, rfl⟩
  have hB : Below W7.heap.size W7 W8 := by rw [← hWn]; exact (below_new _ _)
  clear cHAU cHAY
  replace HS1 := Lib.hid (HS1.out.below hB)
  replace HS2 := Lib.hid (HS2.out.below hB)
  replace HS3 := Lib.hid (HS3.out.below hB)
  replace HT := Lib.hid (fun j hj => keep_below hB _ _ (HT.out j hj))
  replace HOX := Lib.hid (owns_below2 HOX.out hB)
  replace HOY := Lib.hid (owns_below2 HOY.out hB)
  replace HOZ := Lib.hid (owns_below2 HOZ.out hB)
  replace H3 := Lib.hid (H3.out.trans (hB.mono H3.out.size))
  replace HU := Lib.hid (HU.out.grow hB)
  replace HV := Lib.hid (HV.out.grow hB)
  replace HAU := Lib.hid (HAU.out.below hB)
  replace HAY := Lib.hid (HAY.out.below hB)
  replace HW := Lib.hid (HW.out.grow hB)
  replace HB := Lib.hid (HB.out.trans (hB.mono HB.out.size))
  have HAQ := Lib.hid (show At1 W8 W7.heap.size (q) by rw [← hWn]; exact At1.new W7 (q) 29)
  clear hB
  have cHAU := HAU.out.2.1
  have cHAY := HAY.out.2.1
  have cHAQ := HAQ.out.2.1
  go_wp2
  clear hWn
  replace H3 := Lib.hid H3.out.size
  go_loopw [14] (fun i wr => ∃ (k : Nat) (ys : List Value), k ≤ s.length ∧ i = .int .i64 k ∧ wr.ownsRow w.heap.size 27 1 (.slice ax s.length cx) s.length ys ∧ W8.grownBy wr (Value.slice ax s.length cx).ownBlock) (fun i _ => s.length - (intOf i).toNat)
  case atStart => exact ⟨0, _, by omega, rfl, HOX.out, grown_refl _ _⟩
  case round =>
    obtain ⟨k, ys, hk, rfl, hown, hgr⟩ := hrel
    have HO := Lib.hid hown
    have HG := Lib.hid hgr
    by_cases hlt : k < s.length
    · obtain ⟨g, cap, e, _⟩ := owns_shape hown (by omega)
      obtain ⟨e1, e2⟩ : ax = some ⟨g, 0, none⟩ ∧ cx = cap := by cases e; exact ⟨rfl, rfl⟩
      subst e1
      obtain ⟨z0, hcw⟩ : ∃ z, wr.cell? ⟨g, k, none⟩ = some z := ⟨_, owns_cell hown k (by rw [owns_len hown]; exact hlt)⟩
      have hfr := World.ownsRow.frozenAt hown k
      clear hown hgr e e2
      go_wp2
      go_roundw
      case rel => exact ⟨k + 1, ys.set k (.int .i8 77), by omega, by go_num, (World.ownsRow.stored HO.out k _).1, grown_trans HG.out (grown_setCell _ ⟨g, k, none⟩ _)⟩
      case measure => simp [intOf]; omega
    · obtain ⟨X1, hwn⟩ : ∃ X1, X1 = wr := ⟨_, rfl⟩
      subst hwn
      have hblk := HXb.out
      have K1 : Kept (fun b => b < w.heap.size) W8 X1 := kept_lt hgr (fun k hk => by have := (hblk k hk).1; omega)
      have K2 : Kept (fun b => W3.heap.size ≤ b) W8 X1 := kept_ge hgr (fun k hk => by have := (hblk k hk).2; omega)
      replace HS1 := Lib.hid (HS1.out.keep K1 (fun _ _ h => h))
      replace HS2 := Lib.hid (HS2.out.keep K1 (fun _ _ h => h))
      replace HS3 := Lib.hid (HS3.out.keep K1 (fun _ _ h => h))
      replace HU := Lib.hid (HU.out.keep K2 (fun _ _ h => h))
      replace HV := Lib.hid (HV.out.keep K2 (fun _ _ h => h))
      replace HW := Lib.hid (HW.out.keep K2 (fun _ _ h => h))
      replace HAU := Lib.hid (HAU.out.grown hgr (fun e => by have h1 := (hblk _ e.symm).2; have h2 := HG5.out; omega))
      replace HAY := Lib.hid (HAY.out.grown hgr (fun e => by have h1 := (hblk _ e.symm).2; have h2 := HG5.out; omega))
      replace HAQ := Lib.hid (HAQ.out.grown hgr (fun e => by have h1 := (hblk _ e.symm).2; have h2 := HG7.out; omega))
      replace HOY := Lib.hid (World.ownsRow.kept HOY.out hgr (by cases hq : (Value.slice ay _ cy).ownBlock with
          | none => exact .inl rfl
          | some k => exact .inr (fun e => by have h1 := hblk _ e.symm; have h2 := HYb.out _ hq; omega)))
      replace HOZ := Lib.hid (World.ownsRow.kept HOZ.out hgr (by cases hq : (Value.slice az _ cz).ownBlock with
          | none => exact .inl rfl
          | some k => exact .inr (fun e => by have h1 := hblk _ e.symm; have h2 := HZb.out _ hq; omega)))
      replace HT := Lib.hid (show TabAt X1 from fun j hj => hgr.cell (HT.out j hj) (fun e => by have h1 : w.heap.size ≤ 1 := (hblk _ e.symm).1; have h2 := HTL.out; omega))
      replace HB := Lib.hid (HB.out.grown hgr HB.out.size (fun k hk => by have := (hblk k hk).1; omega))
      replace H3 := Lib.hid (show W3.heap.size ≤ X1.heap.size from Nat.le_trans H3.out hgr.size)
      clear hblk K1 K2 hown hgr
      clear cHAU cHAY cHAQ
      have cHAU := HAU.out.2.1
      have cHAY := HAY.out.2.1
      have cHAQ := HAQ.out.2.1
      go_wp2
      go_loopw [15] (fun i wr => ∃ (k : Nat) (ys : List Value), k ≤ c.length ∧ i = .int .i64 k ∧ wr.ownsRow W1.heap.size 21 1 (.slice ay c.length cy) c.length ys ∧ X1.grownBy wr (Value.slice ay c.length cy).ownBlock) (fun i _ => c.length - (intOf i).toNat)
      case atStart => exact ⟨0, _, by omega, rfl, HOY.out, grown_refl _ _⟩
      case round =>
        obtain ⟨k, ys, hk, rfl, hown, hgr⟩ := hrel
        have HO := Lib.hid hown
        have HG := Lib.hid hgr
        by_cases hlt : k < c.length
        · obtain ⟨g, cap, e, _⟩ := owns_shape hown (by omega)
          obtain ⟨e1, e2⟩ : ay = some ⟨g, 0, none⟩ ∧ cy = cap := by cases e; exact ⟨rfl, rfl⟩
          subst e1
          obtain ⟨z0, hcw⟩ : ∃ z, wr.cell? ⟨g, k, none⟩ = some z := ⟨_, owns_cell hown k (by rw [owns_len hown]; exact hlt)⟩
          have hfr := World.ownsRow.frozenAt hown k
          clear hown hgr e e2
          go_wp2
          go_roundw
          case rel => exact ⟨k + 1, ys.set k (.int .i32 113), by omega, by go_num, (World.ownsRow.stored HO.out k _).1, grown_trans HG.out (grown_setCell _ ⟨g, k, none⟩ _)⟩
          case measure => simp [intOf]; omega
        · obtain ⟨X2, hwn⟩ : ∃ X2, X2 = wr := ⟨_, rfl⟩
          subst hwn
          have hblk := HYb.out
          have K1 : Kept (fun b => b < w.heap.size) X1 X2 := kept_lt hgr (fun k hk => by have := (hblk k hk).1; omega)
          have K2 : Kept (fun b => W3.heap.size ≤ b) X1 X2 := kept_ge hgr (fun k hk => by have := (hblk k hk).2; omega)
          replace HS1 := Lib.hid (HS1.out.keep K1 (fun _ _ h => h))
          replace HS2 := Lib.hid (HS2.out.keep K1 (fun _ _ h => h))
          replace HS3 := Lib.hid (HS3.out.keep K1 (fun _ _ h => h))
          replace HU := Lib.hid (HU.out.keep K2 (fun _ _ h => h))
          replace HV := Lib.hid (HV.out.keep K2 (fun _ _ h => h))
          replace HW := Lib.hid (HW.out.keep K2 (fun _ _ h => h))
          replace HAU := Lib.hid (HAU.out.grown hgr (fun e => by have h1 := (hblk _ e.symm).2; have h2 := HG5.out; omega))
          replace HAY := Lib.hid (HAY.out.grown hgr (fun e => by have h1 := (hblk _ e.symm).2; have h2 := HG5.out; omega))
          replace HAQ := Lib.hid (HAQ.out.grown hgr (fun e => by have h1 := (hblk _ e.symm).2; have h2 := HG7.out; omega))
          replace HOZ := Lib.hid (World.ownsRow.kept HOZ.out hgr (by cases hq : (Value.slice az _ cz).ownBlock with
              | none => exact .inl rfl
              | some k => exact .inr (fun e => by have h1 := hblk _ e.symm; have h2 := HZb.out _ hq; omega)))
          replace HT := Lib.hid (show TabAt X2 from fun j hj => hgr.cell (HT.out j hj) (fun e => by have h1 : W1.heap.size ≤ 1 := (hblk _ e.symm).1; have h2 := HTL.out; omega))
          replace HB := Lib.hid (HB.out.grown hgr HB.out.size (fun k hk => by have := (hblk k hk).1; omega))
          replace H3 := Lib.hid (show W3.heap.size ≤ X2.heap.size from Nat.le_trans H3.out hgr.size)
          clear hblk K1 K2 hown hgr
          clear cHAU cHAY cHAQ
          have cHAU := HAU.out.2.1
          have cHAY := HAY.out.2.1
          have cHAQ := HAQ.out.2.1
          go_wp2
          go_loopw [16] (fun i wr => ∃ (k : Nat) (ys : List Value), k ≤ l.length ∧ i = .int .i64 k ∧ wr.ownsRow W2.heap.size 2 1 (.slice az l.length cz) l.length ys ∧ X2.grownBy wr (Value.slice az l.length cz).ownBlock) (fun i _ => l.length - (intOf i).toNat)
          case atStart => exact ⟨0, _, by omega, rfl, HOZ.out, grown_refl _ _⟩
          case round =>
            obtain ⟨k, ys, hk, rfl, hown, hgr⟩ := hrel
            have HO := Lib.hid hown
            have HG := Lib.hid hgr
            by_cases hlt : k < l.length
            · obtain ⟨g, cap, e, _⟩ := owns_shape hown (by omega)
              obtain ⟨e1, e2⟩ : az = some ⟨g, 0, none⟩ ∧ cz = cap := by cases e; exact ⟨rfl, rfl⟩
              subst e1
              obtain ⟨z0, hcw⟩ : ∃ z, wr.cell? ⟨g, k, none⟩ = some z := ⟨_, owns_cell hown k (by rw [owns_len hown]; exact hlt)⟩
              have hfr := World.ownsRow.frozenAt hown k
              clear hown hgr e e2
              go_wp2
              go_roundw
              case rel => exact ⟨k + 1, ys.set k (.int .i64 99), by omega, by go_num, (World.ownsRow.stored HO.out k _).1, grown_trans HG.out (grown_setCell _ ⟨g, k, none⟩ _)⟩
              case measure => simp [intOf]; omega
            · obtain ⟨X3, hwn⟩ : ∃ X3, X3 = wr := ⟨_, rfl⟩
              subst hwn
              have hblk := HZb.out
              have K1 : Kept (fun b => b < w.heap.size) X2 X3 := kept_lt hgr (fun k hk => by have := (hblk k hk).1; omega)
              have K2 : Kept (fun b => W3.heap.size ≤ b) X2 X3 := kept_ge hgr (fun k hk => by have := (hblk k hk).2; omega)
              replace HS1 := Lib.hid (HS1.out.keep K1 (fun _ _ h => h))
              replace HS2 := Lib.hid (HS2.out.keep K1 (fun _ _ h => h))
              replace HS3 := Lib.hid (HS3.out.keep K1 (fun _ _ h => h))
              replace HU := Lib.hid (HU.out.keep K2 (fun _ _ h => h))
              replace HV := Lib.hid (HV.out.keep K2 (fun _ _ h => h))
              replace HW := Lib.hid (HW.out.keep K2 (fun _ _ h => h))
              replace HAU := Lib.hid (HAU.out.grown hgr (fun e => by have h1 := (hblk _ e.symm).2; have h2 := HG5.out; omega))
              replace HAY := Lib.hid (HAY.out.grown hgr (fun e => by have h1 := (hblk _ e.symm).2; have h2 := HG5.out; omega))
              replace HAQ := Lib.hid (HAQ.out.grown hgr (fun e => by have h1 := (hblk _ e.symm).2; have h2 := HG7.out; omega))
              replace HT := Lib.hid (show TabAt X3 from fun j hj => hgr.cell (HT.out j hj) (fun e => by have h1 : W2.heap.size ≤ 1 := (hblk _ e.symm).1; have h2 := HTL.out; omega))
              replace HB := Lib.hid (HB.out.grown hgr HB.out.size (fun k hk => by have := (hblk k hk).1; omega))
              replace H3 := Lib.hid (show W3.heap.size ≤ X3.heap.size from Nat.le_trans H3.out hgr.size)
              clear hblk K1 K2 hown hgr
              clear cHAU cHAY cHAQ
              have cHAU := HAU.out.2.1
              have cHAY := HAY.out.2.1
              have cHAQ := HAQ.out.2.1
              replace HS1 := Lib.hid HS1.out.lt
              replace HS2 := Lib.hid HS2.out.lt
              replace HS3 := Lib.hid HS3.out.lt
              replace HU := Lib.hid HU.out.lts
              replace HV := Lib.hid HV.out.lts
              replace HW := Lib.hid HW.out.lts
              have HLHAU := Lib.hid (show W5.heap.size < X3.heap.size from HAU.out.1)
              have HLHAY := Lib.hid (show (W5.heap.size + 1) < X3.heap.size from HAY.out.1)
              have HLHAQ := Lib.hid (show W7.heap.size < X3.heap.size from HAQ.out.1)
              have HWT := Lib.hid (show w.heap.size ≤ X3.heap.size from HB.out.size)
              go_wp2_with fail
              refine (vtext_own y c _ HV.out HL2.out).mono ?_
              clear cHAU cHAY cHAQ
              rintro e W21 ⟨vt, rfl, hs, hB⟩
              replace HS1 := Lib.hid (HS1.out.below hB)
              replace HS2 := Lib.hid (HS2.out.below hB)
              replace HS3 := Lib.hid (HS3.out.below hB)
              replace HT := Lib.hid (fun j hj => keep_below hB _ _ (HT.out j hj))
              replace HU := Lib.hid (HU.out.grow hB)
              replace HV := Lib.hid (HV.out.grow hB)
              replace HW := Lib.hid (HW.out.grow hB)
              replace HAU := Lib.hid (HAU.out.below hB)
              replace HAY := Lib.hid (HAY.out.below hB)
              replace HAQ := Lib.hid (HAQ.out.below hB)
              replace HB := Lib.hid (HB.out.trans (hB.mono HB.out.size))
              obtain ⟨at1, ct1, rfl⟩ := owns_form hs
              have HOT := Lib.hid hs
              clear hs
              clear hB
              have cHAU := HAU.out.2.1
              have cHAY := HAY.out.2.1
              have cHAQ := HAQ.out.2.1
              go_wp2
              go_loopw [18] (fun i wr => ∃ (k : Nat) (ys : List Value), k ≤ c.length ∧ i = .int .i64 k ∧ wr.ownsRow (X3.heap.size + 1) 21 1 (.slice at1 c.length ct1) c.length ys ∧ W21.grownBy wr (Value.slice at1 c.length ct1).ownBlock) (fun i _ => c.length - (intOf i).toNat)
              case atStart => exact ⟨0, _, by omega, rfl, HOT.out, grown_refl _ _⟩
              case round =>
                obtain ⟨k, ys, hk, rfl, hown, hgr⟩ := hrel
                have HO := Lib.hid hown
                have HG := Lib.hid hgr
                by_cases hlt : k < c.length
                · obtain ⟨g, cap, e, _⟩ := owns_shape hown (by omega)
                  obtain ⟨e1, e2⟩ : at1 = some ⟨g, 0, none⟩ ∧ ct1 = cap := by cases e; exact ⟨rfl, rfl⟩
                  subst e1
                  obtain ⟨z0, hcw⟩ : ∃ z, wr.cell? ⟨g, k, none⟩ = some z := ⟨_, owns_cell hown k (by rw [owns_len hown]; exact hlt)⟩
                  have hfr := World.ownsRow.frozenAt hown k
                  clear hown hgr e e2
                  go_wp2
                  go_roundw
                  case rel => exact ⟨k + 1, ys.set k (.int .i32 122), by omega, by go_num, (World.ownsRow.stored HO.out k _).1, grown_trans HG.out (grown_setCell _ ⟨g, k, none⟩ _)⟩
                  case measure => simp [intOf]; omega
                · obtain ⟨X4, hwn⟩ : ∃ X4, X4 = wr := ⟨_, rfl⟩
                  subst hwn
                  have hblk := fun k hk => (hown.lt k hk).1
                  have K1 : Kept (fun b => b < X3.heap.size) W21 X4 := kept_lt hgr (fun k hk => by have := hblk k hk; omega)
                  replace HS1 := Lib.hid (HS1.out.keep K1 (fun _ _ h => h))
                  replace HS2 := Lib.hid (HS2.out.keep K1 (fun _ _ h => h))
                  replace HS3 := Lib.hid (HS3.out.keep K1 (fun _ _ h => h))
                  replace HU := Lib.hid (HU.out.keep K1 (fun _ _ h => h))
                  replace HV := Lib.hid (HV.out.keep K1 (fun _ _ h => h))
                  replace HW := Lib.hid (HW.out.keep K1 (fun _ _ h => h))
                  replace HAU := Lib.hid (HAU.out.grown hgr (fun e => by have h1 := hblk _ e.symm; have h2 := HLHAU.out; omega))
                  replace HAY := Lib.hid (HAY.out.grown hgr (fun e => by have h1 := hblk _ e.symm; have h2 := HLHAY.out; omega))
                  replace HAQ := Lib.hid (HAQ.out.grown hgr (fun e => by have h1 := hblk _ e.symm; have h2 := HLHAQ.out; omega))
                  replace HT := Lib.hid (show TabAt X4 from fun j hj => hgr.cell (HT.out j hj) (fun e => by have h1 : _ ≤ 1 := hblk _ e.symm; have h2 := HTL.out; have h3 := HWT.out; omega))
                  replace HB := Lib.hid (HB.out.grown hgr HB.out.size (fun k hk => by have := hblk k hk; have h3 := HWT.out; omega))
                  clear hblk K1 hown hgr
                  clear cHAU cHAY cHAQ
                  have cHAU := HAU.out.2.1
                  have cHAY := HAY.out.2.1
                  have cHAQ := HAQ.out.2.1
                  replace HS1 := Lib.hid HS1.out.lt
                  replace HS2 := Lib.hid HS2.out.lt
                  replace HS3 := Lib.hid HS3.out.lt
                  replace HU := Lib.hid HU.out.lts
                  replace HV := Lib.hid HV.out.lts
                  replace HW := Lib.hid HW.out.lts
                  have HLHAU := Lib.hid (show W5.heap.size < X4.heap.size from HAU.out.1)
                  have HLHAY := Lib.hid (show (W5.heap.size + 1) < X4.heap.size from HAY.out.1)
                  have HLHAQ := Lib.hid (show W7.heap.size < X4.heap.size from HAQ.out.1)
                  have HWT := Lib.hid (show w.heap.size ≤ X4.heap.size from HB.out.size)
                  go_wp2_with fail
                  refine (vwholes_own q l _ HW.out HL3.out).mono ?_
                  clear cHAU cHAY cHAQ
                  rintro e W31 ⟨vm, rfl, hs, hB⟩
                  replace HS1 := Lib.hid (HS1.out.below hB)
                  replace HS2 := Lib.hid (HS2.out.below hB)
                  replace HS3 := Lib.hid (HS3.out.below hB)
                  replace HT := Lib.hid (fun j hj => keep_below hB _ _ (HT.out j hj))
                  replace HU := Lib.hid (HU.out.grow hB)
                  replace HV := Lib.hid (HV.out.grow hB)
                  replace HW := Lib.hid (HW.out.grow hB)
                  replace HAU := Lib.hid (HAU.out.below hB)
                  replace HAY := Lib.hid (HAY.out.below hB)
                  replace HAQ := Lib.hid (HAQ.out.below hB)
                  replace HB := Lib.hid (HB.out.trans (hB.mono HB.out.size))
                  obtain ⟨am1, cm1, rfl⟩ := owns_form hs
                  have HOM := Lib.hid hs
                  clear hs
                  clear hB
                  have cHAU := HAU.out.2.1
                  have cHAY := HAY.out.2.1
                  have cHAQ := HAQ.out.2.1
                  go_wp2
                  go_loopw [21] (fun i wr => ∃ (k : Nat) (ys : List Value), k ≤ l.length ∧ i = .int .i64 k ∧ wr.ownsRow (X4.heap.size + 1) 2 1 (.slice am1 l.length cm1) l.length ys ∧ W31.grownBy wr (Value.slice am1 l.length cm1).ownBlock) (fun i _ => l.length - (intOf i).toNat)
                  case atStart => exact ⟨0, _, by omega, rfl, HOM.out, grown_refl _ _⟩
                  case round =>
                    obtain ⟨k, ys, hk, rfl, hown, hgr⟩ := hrel
                    have HO := Lib.hid hown
                    have HG := Lib.hid hgr
                    by_cases hlt : k < l.length
                    · obtain ⟨g, cap, e, _⟩ := owns_shape hown (by omega)
                      obtain ⟨e1, e2⟩ : am1 = some ⟨g, 0, none⟩ ∧ cm1 = cap := by cases e; exact ⟨rfl, rfl⟩
                      subst e1
                      obtain ⟨z0, hcw⟩ : ∃ z, wr.cell? ⟨g, k, none⟩ = some z := ⟨_, owns_cell hown k (by rw [owns_len hown]; exact hlt)⟩
                      have hfr := World.ownsRow.frozenAt hown k
                      clear hown hgr e e2
                      go_wp2
                      go_roundw
                      case rel => exact ⟨k + 1, ys.set k (.int .i64 5), by omega, by go_num, (World.ownsRow.stored HO.out k _).1, grown_trans HG.out (grown_setCell _ ⟨g, k, none⟩ _)⟩
                      case measure => simp [intOf]; omega
                    · obtain ⟨X5, hwn⟩ : ∃ X5, X5 = wr := ⟨_, rfl⟩
                      subst hwn
                      have hblk := fun k hk => (hown.lt k hk).1
                      have K1 : Kept (fun b => b < X4.heap.size) W31 X5 := kept_lt hgr (fun k hk => by have := hblk k hk; omega)
                      replace HS1 := Lib.hid (HS1.out.keep K1 (fun _ _ h => h))
                      replace HS2 := Lib.hid (HS2.out.keep K1 (fun _ _ h => h))
                      replace HS3 := Lib.hid (HS3.out.keep K1 (fun _ _ h => h))
                      replace HU := Lib.hid (HU.out.keep K1 (fun _ _ h => h))
                      replace HV := Lib.hid (HV.out.keep K1 (fun _ _ h => h))
                      replace HW := Lib.hid (HW.out.keep K1 (fun _ _ h => h))
                      replace HAU := Lib.hid (HAU.out.grown hgr (fun e => by have h1 := hblk _ e.symm; have h2 := HLHAU.out; omega))
                      replace HAY := Lib.hid (HAY.out.grown hgr (fun e => by have h1 := hblk _ e.symm; have h2 := HLHAY.out; omega))
                      replace HAQ := Lib.hid (HAQ.out.grown hgr (fun e => by have h1 := hblk _ e.symm; have h2 := HLHAQ.out; omega))
                      replace HT := Lib.hid (show TabAt X5 from fun j hj => hgr.cell (HT.out j hj) (fun e => by have h1 : _ ≤ 1 := hblk _ e.symm; have h2 := HTL.out; have h3 := HWT.out; omega))
                      replace HB := Lib.hid (HB.out.grown hgr HB.out.size (fun k hk => by have := hblk k hk; have h3 := HWT.out; omega))
                      clear hblk K1 hown hgr
                      clear cHAU cHAY cHAQ
                      have cHAU := HAU.out.2.1
                      have cHAY := HAY.out.2.1
                      have cHAQ := HAQ.out.2.1
                      go_wp2_with fail
                      refine (vwholes_own q l _ HW.out HL3.out).mono ?_
                      clear cHAU cHAY cHAQ
                      rintro e W41 ⟨vn, rfl, hs, hB⟩
                      replace HS1 := Lib.hid (HS1.out.below hB)
                      replace HS2 := Lib.hid (HS2.out.below hB)
                      replace HS3 := Lib.hid (HS3.out.below hB)
                      replace HT := Lib.hid (fun j hj => keep_below hB _ _ (HT.out j hj))
                      replace HU := Lib.hid (HU.out.grow hB)
                      replace HV := Lib.hid (HV.out.grow hB)
                      replace HW := Lib.hid (HW.out.grow hB)
                      replace HAU := Lib.hid (HAU.out.below hB)
                      replace HAY := Lib.hid (HAY.out.below hB)
                      replace HAQ := Lib.hid (HAQ.out.below hB)
                      replace HB := Lib.hid (HB.out.trans (hB.mono HB.out.size))
                      have HNS := Lib.hid (Slc.owned hs)
                      clear hs
                      obtain ⟨an1, cn1, rfl, _⟩ := HNS.out.opened
                      clear hB
                      have cHAU := HAU.out.2.1
                      have cHAY := HAY.out.2.1
                      have cHAQ := HAQ.out.2.1
                      have hb1 : ((l.length : Int) != (l.length : Int)) = false := by simp
                      have hb2 : ((s.length : Int) != (s.length : Int)) = false := by simp
                      go_wp2_with fail
                      refine (vlen_calls _ _ _ HU.out).mono ?_
                      clear cHAU cHAY cHAQ
                      rintro e W42 ⟨rfl, hB⟩
                      replace HS1 := Lib.hid (HS1.out.below hB)
                      replace HS2 := Lib.hid (HS2.out.below hB)
                      replace HS3 := Lib.hid (HS3.out.below hB)
                      replace HT := Lib.hid (fun j hj => keep_below hB _ _ (HT.out j hj))
                      replace HU := Lib.hid (HU.out.grow hB)
                      replace HV := Lib.hid (HV.out.grow hB)
                      replace HW := Lib.hid (HW.out.grow hB)
                      replace HAU := Lib.hid (HAU.out.below hB)
                      replace HAY := Lib.hid (HAY.out.below hB)
                      replace HAQ := Lib.hid (HAQ.out.below hB)
                      replace HNS := Lib.hid (HNS.out.below hB)
                      replace HB := Lib.hid (HB.out.trans (hB.mono HB.out.size))
                      simp only [VV.len]
                      clear hB
                      have cHAU := HAU.out.2.1
                      have cHAY := HAY.out.2.1
                      have cHAQ := HAQ.out.2.1
                      go_wp2_with fail
                      refine (vtext_calls _ _ _ HV.out HOKC.out).mono ?_
                      clear cHAU cHAY cHAQ
                      rintro e W43 ⟨vt2, rfl, hs, hB⟩
                      replace HS1 := Lib.hid (HS1.out.below hB)
                      replace HS2 := Lib.hid (HS2.out.below hB)
                      replace HS3 := Lib.hid (HS3.out.below hB)
                      replace HT := Lib.hid (fun j hj => keep_below hB _ _ (HT.out j hj))
                      replace HU := Lib.hid (HU.out.grow hB)
                      replace HV := Lib.hid (HV.out.grow hB)
                      replace HW := Lib.hid (HW.out.grow hB)
                      replace HAU := Lib.hid (HAU.out.below hB)
                      replace HAY := Lib.hid (HAY.out.below hB)
                      replace HAQ := Lib.hid (HAQ.out.below hB)
                      replace HNS := Lib.hid (HNS.out.below hB)
                      replace HB := Lib.hid (HB.out.trans (hB.mono HB.out.size))
                      have HTX := Lib.hid (show Slc _ _ _ c.length (i32s c) from hs)
                      clear hs
                      clear hB
                      have cHAU := HAU.out.2.1
                      have cHAY := HAY.out.2.1
                      have cHAQ := HAQ.out.2.1
                      go_wp2_with fail
                      refine (runes_same _ _ c _ HTX.out HS2.out HL2.out).mono ?_
                      clear cHAU cHAY cHAQ
                      rintro e W44 ⟨rfl, hB⟩
                      replace HS1 := Lib.hid (HS1.out.below hB)
                      replace HS2 := Lib.hid (HS2.out.below hB)
                      replace HS3 := Lib.hid (HS3.out.below hB)
                      replace HT := Lib.hid (fun j hj => keep_below hB _ _ (HT.out j hj))
                      replace HU := Lib.hid (HU.out.grow hB)
                      replace HV := Lib.hid (HV.out.grow hB)
                      replace HW := Lib.hid (HW.out.grow hB)
                      replace HAU := Lib.hid (HAU.out.below hB)
                      replace HAY := Lib.hid (HAY.out.below hB)
                      replace HAQ := Lib.hid (HAQ.out.below hB)
                      replace HNS := Lib.hid (HNS.out.below hB)
                      replace HTX := Lib.hid (HTX.out.below hB)
                      replace HB := Lib.hid (HB.out.trans (hB.mono HB.out.size))
                      clear hB
                      have cHAU := HAU.out.2.1
                      have cHAY := HAY.out.2.1
                      have cHAQ := HAQ.out.2.1
                      go_wp2
                      go_loopw [24] (fun i wr => ∃ k : Nat, k ≤ l.length ∧ i = .int .i64 k ∧ Below W44.heap.size W44 wr) (fun i _ => l.length - (intOf i).toNat)
                      case atStart => exact ⟨0, by omega, rfl, Below.refl _ _⟩
                      case round =>
                        obtain ⟨k, hk, rfl, hBr⟩ := hrel
                        have HBr := Lib.hid hBr
                        clear hBr
                        by_cases hlt : k < l.length
                        · obtain ⟨b1, o1, p1, x, e1, hx, hcx⟩ := Slc.at_map (Value.int .i64) (show Slc _ _ _ l.length (l.map (Value.int .i64)) from HS3.out) k hlt
                          obtain ⟨b2, o2, p2, x2, e2, hx2, hcx2⟩ := Slc.at_map (Value.int .i64) (show Slc _ _ _ l.length (l.map (Value.int .i64)) from HNS.out) k hlt
                          obtain rfl : x = x2 := Option.some.inj (hx.symm.trans hx2)
                          obtain ⟨e1a, e1b⟩ : ao3 = some ⟨b1, o1, none⟩ ∧ cap3 = p1 := by cases e1; exact ⟨rfl, rfl⟩
                          obtain ⟨e2a, e2b⟩ : an1 = some ⟨b2, o2, none⟩ ∧ cn1 = p2 := by cases e2; exact ⟨rfl, rfl⟩
                          subst e1a
                          subst e2a
                          have hd1 := keep_below HBr.out _ _ hcx
                          have hd2 := keep_below HBr.out _ _ hcx2
                          have hbx : (x != x) = false := by simp
                          clear hx hx2 hcx hcx2 e1 e2 e1b e2b
                          go_wp2
                          go_quiet (fail)
                          go_wp2
                          go_roundw
                          case rel => exact ⟨k + 1, by omega, by go_num, Below.drewN' HBr.out _⟩
                          case measure => simp [intOf]; omega
                        · obtain ⟨X6, hwn⟩ : ∃ X6, X6 = wr := ⟨_, rfl⟩
                          subst hwn
                          have hB := HBr.out
                          clear cHAU cHAY cHAQ
                          replace HS1 := Lib.hid (HS1.out.below hB)
                          replace HS2 := Lib.hid (HS2.out.below hB)
                          replace HS3 := Lib.hid (HS3.out.below hB)
                          replace HT := Lib.hid (fun j hj => keep_below hB _ _ (HT.out j hj))
                          replace HU := Lib.hid (HU.out.grow hB)
                          replace HV := Lib.hid (HV.out.grow hB)
                          replace HW := Lib.hid (HW.out.grow hB)
                          replace HAU := Lib.hid (HAU.out.below hB)
                          replace HAY := Lib.hid (HAY.out.below hB)
                          replace HAQ := Lib.hid (HAQ.out.below hB)
                          replace HB := Lib.hid (HB.out.trans (hB.mono HB.out.size))
                          clear hB
                          have cHAU := HAU.out.2.1
                          have cHAY := HAY.out.2.1
                          have cHAQ := HAQ.out.2.1
                          go_wp2
                          go_loopw [25] (fun i wr => ∃ k : Nat, k ≤ s.length ∧ i = .int .i64 k ∧ Below X6.heap.size X6 wr) (fun i _ => s.length - (intOf i).toNat)
                          case atStart => exact ⟨0, by omega, rfl, Below.refl _ _⟩
                          case round =>
                            obtain ⟨k, hk, rfl, hBr⟩ := hrel
                            have HBr2 := Lib.hid hBr
                            clear hBr
                            by_cases hlt : k < s.length
                            · obtain ⟨b1, o1, p1, x, e1, hx, hcx⟩ := Slc.at_map (Value.int .i8) (show Slc _ _ _ s.length (s.map (Value.int .i8)) from HS1.out) k hlt
                              obtain ⟨e1a, e1b⟩ : ao1 = some ⟨b1, o1, none⟩ ∧ cap1 = p1 := by cases e1; exact ⟨rfl, rfl⟩
                              subst e1a
                              have HCX := Lib.hid hcx
                              have ho := num_ord (num_ofInt x (sm_i8 (HR.out x (List.mem_of_getElem? hx)).1 (HR.out x (List.mem_of_getElem? hx)).2))
                              have hcv : ∀ w, (convert 27 26 (.int .i8 x)).run Tryd.prog w = .ok (.float .f64 (floatOfInt .f64 x)) w := fun w => run_convert_int_float w 27 26 .i8 .f64 x (by kernel_rfl) (by kernel_rfl)
                              have HNUM := Lib.hid (show ∀ wx, Below X6.heap.size X6 wx → Calls Tryd.prog 30 #[.agg #[u], .int .i64 (k : Int)] wx fun e w' => e = .returned (.float .f64 (floatOfInt .f64 x)) ∧ Below wx.heap.size wx w' from fun wx hx2 => by
                                have := num_calls u (.smalls s) (k : Int) wx (HU.out.grow hx2)
                                simp only [VV.nums] at this
                                rwa [atI_map (floatOfInt .f64) hx] at this)
                              clear hx hcx e1 e1b
                              go_wp2
                              refine region_grow X6 (by kernel_rfl) (by kernel_rfl) HBr2.out ?_
                              intro Ω _ WW hW hI
                              have HW' := Lib.hid hW
                              have HI' := Lib.hid hI
                              have d0 := fun y => ((HAU.out.below (hW y)).2.1)
                              have d1 := fun y => keep_below (hW y) _ _ HCX.out
                              clear hW hI
                              repeat (go_big_quiet_step ((go_at_call 30; exact Calls.quiet_grow HW'.out HI'.out (HNUM.out _ (HW'.out _)))))
                              refine wpQuiet_nil ?_
                              rintro w3 ⟨y, rfl⟩
                              go_wp2
                              go_roundw
                              case rel => exact ⟨k + 1, by omega, by go_num, HW'.out y⟩
                              case measure => simp [intOf]; omega
                            · go_wp2_with fail
                              refine (awake4_calls _).mono ?_
                              rintro e w2 ⟨rfl, hB⟩
                              have HX := Lib.hid (HB.out.trans ((HBr2.out.trans (hB.mono HBr2.out.size)).mono HB.out.size))
                              clear hB
                              go_wp2
                              go_ret
                              exact ⟨rfl, HX.out⟩

set_option maxHeartbeats 8000000 in
theorem vecApart_calls (w : World) (v1 : Value) (s : List Int) (hr1 : RowC w v1 (s.map (Value.int .i8))) (hz1 : ∀ z ∈ s, (Lit.int .i8 z).wf = true) (hl1 : s.length ≤ maxLen) (v2 : Value) (c : List Int) (hr2 : RowC w v2 (c.map (Value.int .i32))) (hz2 : ∀ z ∈ c, (Lit.int .i32 z).wf = true) (hl2 : c.length ≤ maxLen)
    (v3 : Value) (l : List Int) (hr3 : RowC w v3 (l.map (Value.int .i64))) (hz3 : ∀ z ∈ l, (Lit.int .i64 z).wf = true) (hl3 : l.length ≤ maxLen) (hT : TabAt w) :
    Calls Tryd.prog 7 #[v1, v2, v3] w fun e w' => e = .returned (.bool true) ∧ Below w.heap.size w w' := by
  have HT := Lib.hid hT
  have HS1 := Lib.hid (show Slc w (fun b => b < w.heap.size) v1 s.length (i8s s) by have := hr1.slc; rw [List.length_map] at this; exact this.lt)
  have HS2 := Lib.hid (show Slc w (fun b => b < w.heap.size) v2 c.length (i32s c) by have := hr2.slc; rw [List.length_map] at this; exact this.lt)
  have HS3 := Lib.hid (show Slc w (fun b => b < w.heap.size) v3 l.length (ints l) by have := hr3.slc; rw [List.length_map] at this; exact this.lt)
  have HR := Lib.hid (fun z (h : z ∈ s) => i8_range (hz1 z h))
  unfold maxLen at hl1 hl2 hl3
  clear hr1 hr2 hr3 hz1 hz2 hz3 hT
  by_cases hb1 : 200 < s.length
  · obtain ⟨ao1, cap1, rfl, _⟩ := HS1.out.opened
    obtain ⟨ao2, cap2, rfl, _⟩ := HS2.out.opened
    obtain ⟨ao3, cap3, rfl, _⟩ := HS3.out.opened
    go_enter Tryd.func7, Tryd.ntmps7
    go_wp2_with fail
    refine (awake4_calls w).mono ?_
    rintro e w1 ⟨rfl, hB⟩
    have HB := Lib.hid hB
    clear hB
    go_wp2
    go_ret
    exact ⟨rfl, HB.out⟩
  by_cases hb2 : 200 < c.length
  · obtain ⟨ao1, cap1, rfl, _⟩ := HS1.out.opened
    obtain ⟨ao2, cap2, rfl, _⟩ := HS2.out.opened
    obtain ⟨ao3, cap3, rfl, _⟩ := HS3.out.opened
    go_enter Tryd.func7, Tryd.ntmps7
    go_wp2_with fail
    refine (awake4_calls w).mono ?_
    rintro e w1 ⟨rfl, hB⟩
    have HB := Lib.hid hB
    clear hB
    go_wp2
    go_ret
    exact ⟨rfl, HB.out⟩
  by_cases hb3 : 200 < l.length
  · obtain ⟨ao1, cap1, rfl, _⟩ := HS1.out.opened
    obtain ⟨ao2, cap2, rfl, _⟩ := HS2.out.opened
    obtain ⟨ao3, cap3, rfl, _⟩ := HS3.out.opened
    go_enter Tryd.func7, Tryd.ntmps7
    go_wp2_with fail
    refine (awake4_calls w).mono ?_
    rintro e w1 ⟨rfl, hB⟩
    have HB := Lib.hid hB
    clear hB
    go_wp2
    go_ret
    exact ⟨rfl, HB.out⟩
  cases hs : l.all sm
  · obtain ⟨ao1, cap1, rfl, _⟩ := HS1.out.opened
    obtain ⟨ao2, cap2, rfl, _⟩ := HS2.out.opened
    obtain ⟨ao3, cap3, rfl, _⟩ := HS3.out.opened
    have HSM := Lib.hid hs
    clear hs
    go_enter Tryd.func7, Tryd.ntmps7
    go_wp2_with fail
    refine (Calls.grow_same (rsmalls_calls _ l _ HS3.out hl3)).mono ?_
    rintro e W0 ⟨rfl, hB0⟩
    rw [HSM.out]
    have HB0 := Lib.hid hB0
    clear hB0
    go_wp2_with fail
    refine (awake4_calls _).mono ?_
    rintro e w1 ⟨rfl, hB⟩
    have HB := Lib.hid (HB0.out.trans (hB.mono HB0.out.size))
    clear hB
    go_wp2
    go_ret
    exact ⟨rfl, HB.out⟩
  · exact vecApart_core w v1 s HS1 HR v2 c HS2 v3 l HS3 HT (by omega) (by omega) (by omega) hs
end Go.Proofs.YtlgaelndboeapaaDoor
