/- Layer 16's law: OrderCompares. -/
import Derived.Test.YtibkbhglcmpeaaaDoorMgOr1
namespace Go.Proofs.YtibkbhglcmpeaaaDoor
set_option maxRecDepth 100000
open Go.RowKit Fl
set_option linter.unusedVariables false

theorem fld_its16o (x y z : Value) (w : World) : (Instr.field 25 (.agg #[x, y, z]) 1).run Tryd.prog w = .ok y w := by kernel_rfl
theorem Blk4.p0 {w : World} {b : Nat} {x y z t : Value} (h : Blk4 w b x y z t) (v : Value) : Blk4 (w.setCell ⟨b, 0, none⟩ v) b v y z t := by
  obtain ⟨h0, h1, h2, h3, h4, h5⟩ := h
  exact ⟨by simpa using h0, World.cell?_setCell_same _ _ _ h1, by rw [World.cell?_setCell_other _ _ _ _ (by simp)]; exact h2, by rw [World.cell?_setCell_other _ _ _ _ (by simp)]; exact h3, by rw [World.cell?_setCell_other _ _ _ _ (by simp)]; exact h4, fun o => by simpa using h5 o⟩
theorem Blk4.p1 {w : World} {b : Nat} {x y z t : Value} (h : Blk4 w b x y z t) (v : Value) : Blk4 (w.setCell ⟨b, 1, none⟩ v) b x v z t := by
  obtain ⟨h0, h1, h2, h3, h4, h5⟩ := h
  exact ⟨by simpa using h0, by rw [World.cell?_setCell_other _ _ _ _ (by simp)]; exact h1, World.cell?_setCell_same _ _ _ h2, by rw [World.cell?_setCell_other _ _ _ _ (by simp)]; exact h3, by rw [World.cell?_setCell_other _ _ _ _ (by simp)]; exact h4, fun o => by simpa using h5 o⟩
theorem Blk4.p2 {w : World} {b : Nat} {x y z t : Value} (h : Blk4 w b x y z t) (v : Value) : Blk4 (w.setCell ⟨b, 2, none⟩ v) b x y v t := by
  obtain ⟨h0, h1, h2, h3, h4, h5⟩ := h
  exact ⟨by simpa using h0, by rw [World.cell?_setCell_other _ _ _ _ (by simp)]; exact h1, by rw [World.cell?_setCell_other _ _ _ _ (by simp)]; exact h2, World.cell?_setCell_same _ _ _ h3, by rw [World.cell?_setCell_other _ _ _ _ (by simp)]; exact h4, fun o => by simpa using h5 o⟩
theorem Blk4.p3 {w : World} {b : Nat} {x y z t : Value} (h : Blk4 w b x y z t) (v : Value) : Blk4 (w.setCell ⟨b, 3, none⟩ v) b x y z v := by
  obtain ⟨h0, h1, h2, h3, h4, h5⟩ := h
  exact ⟨by simpa using h0, by rw [World.cell?_setCell_other _ _ _ _ (by simp)]; exact h1, by rw [World.cell?_setCell_other _ _ _ _ (by simp)]; exact h2, by rw [World.cell?_setCell_other _ _ _ _ (by simp)]; exact h3, World.cell?_setCell_same _ _ _ h4, fun o => by simpa using h5 o⟩
/-- Four stores into a block. -/
def set4 (w : World) (r : Nat) (x y z t : Value) : World := (((w.setCell ⟨r, 0, none⟩ x).setCell ⟨r, 1, none⟩ y).setCell ⟨r, 2, none⟩ z).setCell ⟨r, 3, none⟩ t
theorem Blk4.put4 {w : World} {b : Nat} {x y z t : Value} (h : Blk4 w b x y z t) (x' y' z' t' : Value) : Blk4 (set4 w b x' y' z' t') b x' y' z' t' := ((((h.p0 x').p1 y').p2 z').p3 t')
theorem cell_far {w : World} {a : Addr} {u : Value} {r : Nat} (h : w.cell? a = some u) (hne : a.block ≠ r) (x y z t : Value) : (set4 w r x y z t).cell? a = some u := by
  have e : ∀ o, (⟨r, o, none⟩ : Addr) ≠ a := fun o h => hne (by rw [← h])
  unfold set4
  rw [World.cell?_setCell_other _ _ _ _ (e _), World.cell?_setCell_other _ _ _ _ (e _), World.cell?_setCell_other _ _ _ _ (e _), World.cell?_setCell_other _ _ _ _ (e _)]
  exact h
theorem Blk4.far4 {w : World} {b r : Nat} {x y z t : Value} (h : Blk4 w b x y z t) (hne : b ≠ r) (x' y' z' t' : Value) : Blk4 (set4 w r x' y' z' t') b x y z t := by
  obtain ⟨h0, h1, h2, h3, h4, h5⟩ := h
  exact ⟨by unfold set4; simpa using h0, cell_far h1 hne _ _ _ _, cell_far h2 hne _ _ _ _, cell_far h3 hne _ _ _ _, cell_far h4 hne _ _ _ _, fun o => by unfold set4; simpa using h5 o⟩
theorem below_set4 {n r : Nat} {w w' : World} (h : Below n w w') (hr : n ≤ r) (x y z t : Value) : Below n w (set4 w' r x y z t) :=
  (((h.setCell (p := ⟨r, 0, none⟩) hr _).setCell (p := ⟨r, 1, none⟩) hr _).setCell (p := ⟨r, 2, none⟩) hr _).setCell (p := ⟨r, 3, none⟩) hr _
/-- Four cells one behind the other. -/
def C4 (w : World) (b o : Nat) (x y z t : Value) : Prop := w.cell? ⟨b, o, none⟩ = some x ∧ w.cell? ⟨b, o + 1, none⟩ = some y ∧ w.cell? ⟨b, o + 2, none⟩ = some z ∧ w.cell? ⟨b, o + 3, none⟩ = some t
theorem C4.below {w w' : World} {b o : Nat} {x y z t : Value} (h : C4 w b o x y z t) (hB : Below w.heap.size w w') : C4 w' b o x y z t := ⟨keep_below hB _ _ h.1, keep_below hB _ _ h.2.1, keep_below hB _ _ h.2.2.1, keep_below hB _ _ h.2.2.2⟩
theorem C4.go {w w' : World} {b o : Nat} {x y z t : Value} (h : C4 w b o x y z t) (hB : Below w.heap.size w w') : Hid (C4 w' b o x y z t) := Lib.hid (h.below hB)
theorem C4.far {w : World} {b o r : Nat} {x y z t : Value} (h : C4 w b o x y z t) (hne : b ≠ r) (x' y' z' t' : Value) : C4 (set4 w r x' y' z' t') b o x y z t := ⟨cell_far h.1 hne _ _ _ _, cell_far h.2.1 hne _ _ _ _, cell_far h.2.2.1 hne _ _ _ _, cell_far h.2.2.2 hne _ _ _ _⟩
theorem C4.lt {w : World} {b o : Nat} {x y z t : Value} (h : C4 w b o x y z t) : b < w.heap.size := World.block_lt_of_cell? w _ h.1
/-- What is to hold in a region may grow on the way. -/
theorem anyH_str {P : Program} {md : Region.Mode} {ops : Array Oper} {Q : Exit → Act → World → Prop} {S S' : World → Prop} (h : ∀ w, S' w → S w) : ∀ (n : Nat) (l : Array Bool) (a : Act) (w : World), wpAnyH P md ops Q S' n l a w → wpAnyH P md ops Q S n l a w
  | 0, _, _, _, H => H
  | n + 1, _, _, _, H => ⟨H.1, fun i hi => wpOp_mono (fun a' w' h' => ⟨h w' h'.1, anyH_str h n _ a' w' h'.2⟩) (H.2 i hi)⟩
/-- An element of a good array: its kind, its key. -/
theorem its_key {d : Nat} {A : VV} (h : A.cls < 2) (hN : ∀ x ∈ A.nums, Fnt x) {i : Nat} {x : PI} (hx : (itsA d A)[i]? = some x) : x.1 = A.cls ∧ (x.1 = 0 → Fnt x.2.1) ∧ keyP x = keyV A i := by
  have hk := (keyed_its (d := d) h hN)
  refine ⟨?_, fun h0 => ((hk.1 i i x x hx hx).2 h0).1, hk.2 i x hx⟩
  rcases VV.cls_cases A with c | c | c
  · rw [its_num c, List.getElem?_map] at hx
    cases hy : A.nums[i]? with
    | none => rw [hy] at hx; cases hx
    | some y => rw [hy] at hx; rw [← Option.some.inj hx, c]
  · rw [its_chr c, List.getElem?_map] at hx
    cases hy : A.text[i]? with
    | none => rw [hy] at hx; cases hx
    | some y => rw [hy] at hx; rw [← Option.some.inj hx, c]
  · omega
set_option maxHeartbeats 16000000 in
theorem orderCompares_walk (p q : PA) (u v : Value) (nd md : Nat) (iz kz : Int) (w : World) (hl : lo nd p) (hp : IsP w (fun _ => True) u p) (hl2 : lo md q) (hq : IsP w (fun _ => True) v q) (hT : TabAt w) :
    Calls Tryd.prog 3 #[u, v, .int .i64 iz, .int .i64 kz] w (Yes16 w) := by
  have HP := Lib.hid hp
  have HQ := Lib.hid hq
  have HLO := Lib.hid hl
  have HLP := Lib.hid hl2
  obtain ⟨so, sc, io, ic, rfl, hs, hit⟩ := hp.opened
  obtain ⟨qo, qc, jo, jc, rfl, hs2, hit2⟩ := hq.opened
  obtain ⟨W1, hW1⟩ : ∃ W1, W1 = (w.alloc (.cells #[.slice so p.s.length sc, .slice io p.l.length ic, .int .i64 p.f] 25)).alloc (.cells #[.slice qo q.s.length qc, .slice jo q.l.length jc, .int .i64 q.f] 25) := ⟨_, rfl⟩
  have HB := Lib.hid (show Below w.heap.size w W1 by rw [hW1]; exact (below_new _ _).alloc (by simp) _)
  have HA := Lib.hid (show At3 W1 w.heap.size (.slice so p.s.length sc) (.slice io p.l.length ic) (.int .i64 p.f) by rw [hW1]; exact (At3.new w _ _ _ _).below (below_new _ _))
  have HA2 := Lib.hid (show At3 W1 (w.heap.size + 1) (.slice qo q.s.length qc) (.slice jo q.l.length jc) (.int .i64 q.f) by rw [hW1]; have := At3.new (w.alloc (.cells #[.slice so p.s.length sc, .slice io p.l.length ic, .int .i64 p.f] 25)) (.slice qo q.s.length qc) (.slice jo q.l.length jc) (.int .i64 q.f) 25; simpa using this)
  have HI := Lib.hid (show IsP W1 (fun _ => True) _ p from HP.out.grow HB.out)
  have HI2 := Lib.hid (show IsP W1 (fun _ => True) _ q from HQ.out.grow HB.out)
  have HT := Lib.hid (show TabAt W1 from fun j hj => keep_below HB.out _ _ (hT j hj))
  obtain ⟨n, hn⟩ : ∃ n, p.l.length = n := ⟨_, rfl⟩
  obtain ⟨f, hf⟩ : ∃ f, p.f = f := ⟨_, rfl⟩
  obtain ⟨m, hm⟩ : ∃ m, q.l.length = m := ⟨_, rfl⟩
  obtain ⟨g, hg⟩ : ∃ g, q.f = g := ⟨_, rfl⟩
  obtain ⟨cp, hcp⟩ : ∃ c, chk 40 p = c := ⟨_, rfl⟩
  obtain ⟨cq, hcq⟩ : ∃ c, chk 40 q = c := ⟨_, rfl⟩
  have HN := Lib.hid hn
  have HF := Lib.hid hf
  have HM := Lib.hid hm
  have HG := Lib.hid hg
  have HCP := Lib.hid hcp
  have HCQ := Lib.hid hcq
  have hnm : n ≤ maxLen := by obtain ⟨a9, c9, e9, h8, h9⟩ := hit.len; omega
  have hmm : m ≤ maxLen := by obtain ⟨a9, c9, e9, h8, h9⟩ := hit2.len; omega
  have hfold := hW1.symm
  clear hs hit hs2 hit2 hp hq hl hl2 hW1 hT hcp hcq
  rw [hn, hf] at HA HI hfold ⊢
  rw [hm, hg] at HA2 HI2 hfold ⊢
  clear hn hf hm hg HP HQ
  have cHA0 := HA.out.2.1
  have cHA1 := HA.out.2.2.1
  have cHA2 := HA.out.2.2.2.1
  have cHA20 := HA2.out.2.1
  have cHA21 := HA2.out.2.2.1
  have cHA22 := HA2.out.2.2.2.1
  go_enter Tryd.func3, Tryd.ntmps3
  go_wp2_with fail
  clear hfold
  refine (pcount_calls nd _ p _ _ _ HLO.out HI.out).mono ?_
  rintro e W11 ⟨np, rfl, hB⟩
  clear cHA0 cHA1 cHA2 cHA20 cHA21 cHA22
  replace HA := Lib.hid (HA.out.below hB)
  replace HA2 := Lib.hid (HA2.out.below hB)
  replace HB := Lib.hid (HB.out.trans (hB.mono HB.out.size))
  replace HI := Lib.hid (HI.out.grow hB)
  replace HI2 := Lib.hid (HI2.out.grow hB)
  replace HT := Lib.hid (fun j hj => keep_below hB _ _ (HT.out j hj))
  clear hB
  have cHA0 := HA.out.2.1
  have cHA1 := HA.out.2.2.1
  have cHA2 := HA.out.2.2.2.1
  have cHA20 := HA2.out.2.1
  have cHA21 := HA2.out.2.2.1
  have cHA22 := HA2.out.2.2.2.1
  by_cases hcp : 1000 < np
  · go_wp2_with fail
    refine (awake16_calls _ HT.out).mono ?_
    rintro e W12 ⟨rfl, hB⟩
    clear cHA0 cHA1 cHA2 cHA20 cHA21 cHA22
    replace HA := Lib.hid (HA.out.below hB)
    replace HA2 := Lib.hid (HA2.out.below hB)
    replace HB := Lib.hid (HB.out.trans (hB.mono HB.out.size))
    replace HI := Lib.hid (HI.out.grow hB)
    replace HI2 := Lib.hid (HI2.out.grow hB)
    replace HT := Lib.hid (fun j hj => keep_below hB _ _ (HT.out j hj))
    clear hB
    have cHA0 := HA.out.2.1
    have cHA1 := HA.out.2.2.1
    have cHA2 := HA.out.2.2.2.1
    have cHA20 := HA2.out.2.1
    have cHA21 := HA2.out.2.2.1
    have cHA22 := HA2.out.2.2.2.1
    go_wp2_with fail
    go_ret
    exact ⟨rfl, HB.out⟩
  go_wp2_with fail
  refine (vCheck_calls _ p _ nd _ HLO.out HI.out).mono ?_
  rintro e W12 ⟨rfl, hB⟩
  clear cHA0 cHA1 cHA2 cHA20 cHA21 cHA22
  replace HA := Lib.hid (HA.out.below hB)
  replace HA2 := Lib.hid (HA2.out.below hB)
  replace HB := Lib.hid (HB.out.trans (hB.mono HB.out.size))
  replace HI := Lib.hid (HI.out.grow hB)
  replace HI2 := Lib.hid (HI2.out.grow hB)
  replace HT := Lib.hid (fun j hj => keep_below hB _ _ (HT.out j hj))
  rw [HCP.out]
  clear hB
  have cHA0 := HA.out.2.1
  have cHA1 := HA.out.2.2.1
  have cHA2 := HA.out.2.2.2.1
  have cHA20 := HA2.out.2.1
  have cHA21 := HA2.out.2.2.1
  have cHA22 := HA2.out.2.2.2.1
  by_cases h0p : cp = 0
  rotate_left
  · have hce : (cp != 0) = true := by simpa using h0p
    go_wp2_with fail
    refine (awake16_calls _ HT.out).mono ?_
    rintro e W13 ⟨rfl, hB⟩
    clear cHA0 cHA1 cHA2 cHA20 cHA21 cHA22
    replace HA := Lib.hid (HA.out.below hB)
    replace HA2 := Lib.hid (HA2.out.below hB)
    replace HB := Lib.hid (HB.out.trans (hB.mono HB.out.size))
    replace HI := Lib.hid (HI.out.grow hB)
    replace HI2 := Lib.hid (HI2.out.grow hB)
    replace HT := Lib.hid (fun j hj => keep_below hB _ _ (HT.out j hj))
    clear hB
    have cHA0 := HA.out.2.1
    have cHA1 := HA.out.2.2.1
    have cHA2 := HA.out.2.2.2.1
    have cHA20 := HA2.out.2.1
    have cHA21 := HA2.out.2.2.1
    have cHA22 := HA2.out.2.2.2.1
    go_wp2_with fail
    go_ret
    exact ⟨rfl, HB.out⟩
  subst h0p
  go_wp2_with fail
  refine (pcount_calls md _ q _ _ _ HLP.out HI2.out).mono ?_
  rintro e W13 ⟨nq, rfl, hB⟩
  clear cHA0 cHA1 cHA2 cHA20 cHA21 cHA22
  replace HA := Lib.hid (HA.out.below hB)
  replace HA2 := Lib.hid (HA2.out.below hB)
  replace HB := Lib.hid (HB.out.trans (hB.mono HB.out.size))
  replace HI := Lib.hid (HI.out.grow hB)
  replace HI2 := Lib.hid (HI2.out.grow hB)
  replace HT := Lib.hid (fun j hj => keep_below hB _ _ (HT.out j hj))
  clear hB
  have cHA0 := HA.out.2.1
  have cHA1 := HA.out.2.2.1
  have cHA2 := HA.out.2.2.2.1
  have cHA20 := HA2.out.2.1
  have cHA21 := HA2.out.2.2.1
  have cHA22 := HA2.out.2.2.2.1
  by_cases hcq : 1000 < nq
  · go_wp2_with fail
    refine (awake16_calls _ HT.out).mono ?_
    rintro e W14 ⟨rfl, hB⟩
    clear cHA0 cHA1 cHA2 cHA20 cHA21 cHA22
    replace HA := Lib.hid (HA.out.below hB)
    replace HA2 := Lib.hid (HA2.out.below hB)
    replace HB := Lib.hid (HB.out.trans (hB.mono HB.out.size))
    replace HI := Lib.hid (HI.out.grow hB)
    replace HI2 := Lib.hid (HI2.out.grow hB)
    replace HT := Lib.hid (fun j hj => keep_below hB _ _ (HT.out j hj))
    clear hB
    have cHA0 := HA.out.2.1
    have cHA1 := HA.out.2.2.1
    have cHA2 := HA.out.2.2.2.1
    have cHA20 := HA2.out.2.1
    have cHA21 := HA2.out.2.2.1
    have cHA22 := HA2.out.2.2.2.1
    go_wp2_with fail
    go_ret
    exact ⟨rfl, HB.out⟩
  go_wp2_with fail
  refine (vCheck_calls _ q _ md _ HLP.out HI2.out).mono ?_
  rintro e W14 ⟨rfl, hB⟩
  clear cHA0 cHA1 cHA2 cHA20 cHA21 cHA22
  replace HA := Lib.hid (HA.out.below hB)
  replace HA2 := Lib.hid (HA2.out.below hB)
  replace HB := Lib.hid (HB.out.trans (hB.mono HB.out.size))
  replace HI := Lib.hid (HI.out.grow hB)
  replace HI2 := Lib.hid (HI2.out.grow hB)
  replace HT := Lib.hid (fun j hj => keep_below hB _ _ (HT.out j hj))
  rw [HCQ.out]
  clear hB
  have cHA0 := HA.out.2.1
  have cHA1 := HA.out.2.2.1
  have cHA2 := HA.out.2.2.2.1
  have cHA20 := HA2.out.2.1
  have cHA21 := HA2.out.2.2.1
  have cHA22 := HA2.out.2.2.2.1
  by_cases h0q : cq = 0
  rotate_left
  · have hce : (cq != 0) = true := by simpa using h0q
    go_wp2_with fail
    refine (awake16_calls _ HT.out).mono ?_
    rintro e W15 ⟨rfl, hB⟩
    clear cHA0 cHA1 cHA2 cHA20 cHA21 cHA22
    replace HA := Lib.hid (HA.out.below hB)
    replace HA2 := Lib.hid (HA2.out.below hB)
    replace HB := Lib.hid (HB.out.trans (hB.mono HB.out.size))
    replace HI := Lib.hid (HI.out.grow hB)
    replace HI2 := Lib.hid (HI2.out.grow hB)
    replace HT := Lib.hid (fun j hj => keep_below hB _ _ (HT.out j hj))
    clear hB
    have cHA0 := HA.out.2.1
    have cHA1 := HA.out.2.2.1
    have cHA2 := HA.out.2.2.2.1
    have cHA20 := HA2.out.2.1
    have cHA21 := HA2.out.2.2.1
    have cHA22 := HA2.out.2.2.2.1
    go_wp2_with fail
    go_ret
    exact ⟨rfl, HB.out⟩
  subst h0q
  by_cases g1 : iz < 0
  · go_wp2_with fail
    refine (awake16_calls _ HT.out).mono ?_
    rintro e W15 ⟨rfl, hB⟩
    clear cHA0 cHA1 cHA2 cHA20 cHA21 cHA22
    replace HA := Lib.hid (HA.out.below hB)
    replace HA2 := Lib.hid (HA2.out.below hB)
    replace HB := Lib.hid (HB.out.trans (hB.mono HB.out.size))
    replace HI := Lib.hid (HI.out.grow hB)
    replace HI2 := Lib.hid (HI2.out.grow hB)
    replace HT := Lib.hid (fun j hj => keep_below hB _ _ (HT.out j hj))
    clear hB
    have cHA0 := HA.out.2.1
    have cHA1 := HA.out.2.2.1
    have cHA2 := HA.out.2.2.2.1
    have cHA20 := HA2.out.2.1
    have cHA21 := HA2.out.2.2.1
    have cHA22 := HA2.out.2.2.2.1
    go_wp2_with fail
    go_ret
    exact ⟨rfl, HB.out⟩
  by_cases g2 : kz < 0
  · go_wp2_with fail
    refine (awake16_calls _ HT.out).mono ?_
    rintro e W15 ⟨rfl, hB⟩
    clear cHA0 cHA1 cHA2 cHA20 cHA21 cHA22
    replace HA := Lib.hid (HA.out.below hB)
    replace HA2 := Lib.hid (HA2.out.below hB)
    replace HB := Lib.hid (HB.out.trans (hB.mono HB.out.size))
    replace HI := Lib.hid (HI.out.grow hB)
    replace HI2 := Lib.hid (HI2.out.grow hB)
    replace HT := Lib.hid (fun j hj => keep_below hB _ _ (HT.out j hj))
    clear hB
    have cHA0 := HA.out.2.1
    have cHA1 := HA.out.2.2.1
    have cHA2 := HA.out.2.2.2.1
    have cHA20 := HA2.out.2.1
    have cHA21 := HA2.out.2.2.1
    have cHA22 := HA2.out.2.2.2.1
    go_wp2_with fail
    go_ret
    exact ⟨rfl, HB.out⟩
  by_cases g3 : (n : Int) ≤ iz
  · go_wp2_with fail
    refine (awake16_calls _ HT.out).mono ?_
    rintro e W15 ⟨rfl, hB⟩
    clear cHA0 cHA1 cHA2 cHA20 cHA21 cHA22
    replace HA := Lib.hid (HA.out.below hB)
    replace HA2 := Lib.hid (HA2.out.below hB)
    replace HB := Lib.hid (HB.out.trans (hB.mono HB.out.size))
    replace HI := Lib.hid (HI.out.grow hB)
    replace HI2 := Lib.hid (HI2.out.grow hB)
    replace HT := Lib.hid (fun j hj => keep_below hB _ _ (HT.out j hj))
    clear hB
    have cHA0 := HA.out.2.1
    have cHA1 := HA.out.2.2.1
    have cHA2 := HA.out.2.2.2.1
    have cHA20 := HA2.out.2.1
    have cHA21 := HA2.out.2.2.1
    have cHA22 := HA2.out.2.2.2.1
    go_wp2_with fail
    go_ret
    exact ⟨rfl, HB.out⟩
  by_cases g4 : (m : Int) ≤ kz
  · go_wp2_with fail
    refine (awake16_calls _ HT.out).mono ?_
    rintro e W15 ⟨rfl, hB⟩
    clear cHA0 cHA1 cHA2 cHA20 cHA21 cHA22
    replace HA := Lib.hid (HA.out.below hB)
    replace HA2 := Lib.hid (HA2.out.below hB)
    replace HB := Lib.hid (HB.out.trans (hB.mono HB.out.size))
    replace HI := Lib.hid (HI.out.grow hB)
    replace HI2 := Lib.hid (HI2.out.grow hB)
    replace HT := Lib.hid (fun j hj => keep_below hB _ _ (HT.out j hj))
    clear hB
    have cHA0 := HA.out.2.1
    have cHA1 := HA.out.2.2.1
    have cHA2 := HA.out.2.2.2.1
    have cHA20 := HA2.out.2.1
    have cHA21 := HA2.out.2.2.1
    have cHA22 := HA2.out.2.2.2.1
    go_wp2_with fail
    go_ret
    exact ⟨rfl, HB.out⟩
  obtain ⟨i, hi⟩ : ∃ i : Nat, iz = (i : Int) := ⟨iz.toNat, by omega⟩
  obtain ⟨k, hk⟩ : ∃ k : Nat, kz = (k : Int) := ⟨kz.toNat, by omega⟩
  subst hi hk
  have hin : i < n := by omega
  have hkm : k < m := by omega
  go_wp2_with fail
  have HLT1 := Lib.hid (good_vec HCP.out).2.2.2.2.2
  have HLT2 := Lib.hid (good_vec HCQ.out).2.2.2.2.2
  obtain ⟨x, hx⟩ : ∃ x, (tidyP 40 p).l[i]? = some x := ⟨_, List.getElem?_eq_getElem (by rw [HLT1.out, HN.out]; exact hin)⟩
  obtain ⟨y, hy⟩ : ∃ y, (tidyP 40 q).l[k]? = some y := ⟨_, List.getElem?_eq_getElem (by rw [HLT2.out, HM.out]; exact hkm)⟩
  have HX := Lib.hid hx
  have HY := Lib.hid hy
  have hfp := fld_its16o
  have hstf := run_store_float
  have hi1 : (i : Int) < (n : Int) := by omega
  have hk1 : (k : Int) < (m : Int) := by omega
  clear hx hy
  clear cHA0 cHA1 cHA2 cHA20 cHA21 cHA22
  refine wp_mid (fun s0 s1 w' => ∃ (e1 e2 e3 e4 e5 e6 sx sy : Value) (rx ry : Nat), s1 = ((((((((((((((s0.put (some 55) (.agg #[.slice so p.s.length sc, .slice io n ic, .int .i64 f])).put (some 56) e1).put (some 57) e2).put (some 58) (.int .i64 (i : Int))).put (some 59) e3).put (some 60) (.agg #[.int .i64 x.1, .float .f64 x.2.1, .int .i32 x.2.2.1, sx])).put (some 61) (.agg #[.slice qo q.s.length qc, .slice jo m jc, .int .i64 g])).put (some 62) e4).put (some 63) e5).put (some 64) (.int .i64 (k : Int))).put (some 65) e6).put (some 66) (.agg #[.int .i64 y.1, .float .f64 y.2.1, .int .i32 y.2.2.1, sy])).put (some 9) (.pointer (some ⟨rx, 0, none⟩))).put (some 10) (.pointer (some ⟨ry, 0, none⟩))) ∧ Blk4 w' rx (.int .i64 x.1) (.float .f64 x.2.1) (.int .i32 x.2.2.1) (sx) ∧ Blk4 w' ry (.int .i64 y.1) (.float .f64 y.2.1) (.int .i32 y.2.2.1) (sy) ∧ Below W14.heap.size W14 w') ?_ ?_
  · have HW0 := Lib.hid (Below.refl W14.heap.size W14)
    have HAS := HA
    have HAS2 := HA2
    have HIW := Lib.hid (IsP.lt HI.out)
    have HIW2 := Lib.hid (IsP.lt HI2.out)
    rename_i hr9 K9 H9
    clear hr9 g1 g2 g3 g4 hin hkm
    obtain ⟨W15, hWD⟩ : ∃ xw9, W14.drew = xw9 := ⟨_, rfl⟩
    have hB : Below W14.heap.size W14 W15 := by rw [← hWD]; exact Below.drewN' (Below.refl _ _) 1
    replace HA := Lib.hid (HA.out.below hB)
    replace HA2 := Lib.hid (HA2.out.below hB)
    replace HW0 := Lib.hid (HW0.out.trans (hB.mono HW0.out.size))
    replace HIW := Lib.hid (HIW.out.grow hB)
    replace HIW2 := Lib.hid (HIW2.out.grow hB)
    clear hB
    refine wp_region_held_drew (S := fun w' => w'.cell? ⟨w.heap.size, 0, none⟩ = some (.slice so p.s.length sc) ∧ w'.cell? ⟨w.heap.size, 1, none⟩ = some (.slice io n ic) ∧ w'.cell? ⟨w.heap.size, 2, none⟩ = some (.int .i64 f) ∧ w'.cell? ⟨w.heap.size + 1, 0, none⟩ = some (.slice qo q.s.length qc) ∧ w'.cell? ⟨w.heap.size + 1, 1, none⟩ = some (.slice jo m jc) ∧ w'.cell? ⟨w.heap.size + 1, 2, none⟩ = some (.int .i64 g)) (by kernel_rfl) (by rw [hWD]; exact ⟨HA.out.2.1, HA.out.2.2.1, HA.out.2.2.2.1, HA2.out.2.1, HA2.out.2.2.1, HA2.out.2.2.2.1⟩) (fun hHeld => ?_)
    rw [hWD] at hHeld ⊢
    clear hWD
    refine wpAnyH_take (i := 0) (v := ?_) rfl (by kernel_rfl) (by kernel_rfl) (by kernel_rfl) (fun _ _ _ h => absurd h.1 (by simp)) (Or.inl ⟨by rfl, ?_⟩) (by assumption) ?_
    rotate_left
    · (intro w hSw; (try dsimp only at hSw); go_simp; try with_reducible rfl)
    simp only [Act.put, List.getElem_toArray, List.getElem_cons_zero, List.setIfInBounds_toArray, List.set_cons_zero, List.set_cons_succ]
    refine wpAnyH_take (i := 3) (v := ?_) rfl (by kernel_rfl) (by kernel_rfl) (by kernel_rfl) (fun _ _ _ h => absurd h.1 (by simp)) (Or.inl ⟨by rfl, ?_⟩) (by assumption) ?_
    rotate_left
    · (intro w hSw; (try dsimp only at hSw); go_simp; try with_reducible rfl)
    simp only [Act.put, List.getElem_toArray, List.getElem_cons_succ, List.getElem_cons_zero, List.setIfInBounds_toArray, List.set_cons_zero, List.set_cons_succ]
    refine wpAnyH_take (i := 6) (v := ?_) rfl (by kernel_rfl) (by kernel_rfl) (by kernel_rfl) (fun _ _ _ h => absurd h.1 (by simp)) (Or.inl ⟨by rfl, ?_⟩) (by assumption) ?_
    rotate_left
    · (intro w hSw; (try dsimp only at hSw); go_simp; try with_reducible rfl)
    simp only [Act.put, List.getElem_toArray, List.getElem_cons_succ, List.getElem_cons_zero, List.setIfInBounds_toArray, List.set_cons_zero, List.set_cons_succ]
    refine wpAnyH_take (i := 9) (v := ?_) rfl (by kernel_rfl) (by kernel_rfl) (by kernel_rfl) (fun _ _ _ h => absurd h.1 (by simp)) (Or.inl ⟨by rfl, ?_⟩) (by assumption) ?_
    rotate_left
    · (intro w hSw; (try dsimp only at hSw); go_simp; try with_reducible rfl)
    simp only [Act.put, List.getElem_toArray, List.getElem_cons_succ, List.getElem_cons_zero, List.setIfInBounds_toArray, List.set_cons_zero, List.set_cons_succ]
    refine wpAnyH_ready (rs := [1, 12, 13]) (by kernel_rfl) (by simp) ?_
    refine AllReadyH.cons (o := _) rfl (fun K hK => ?_) ?_
    · clear hHeld
      go_simp
      skip
      refine (ptidy_calls 40 _ p _ _ HCP.out HIW.out).mono ?_
      rintro e W16 ⟨ut, rfl, hut, hB⟩
      replace HA := Lib.hid (HA.out.below hB)
      replace HA2 := Lib.hid (HA2.out.below hB)
      replace HW0 := Lib.hid (HW0.out.trans (hB.mono HW0.out.size))
      replace HIW := Lib.hid (HIW.out.grow hB)
      replace HIW2 := Lib.hid (HIW2.out.grow hB)
      obtain ⟨txo, txc, txi, txd, rfl, _, hti⟩ := hut.opened
      rw [HLT1.out, HN.out] at hti ⊢
      obtain ⟨bx, ox0, q1, q2, he9, hok, d0, d1, d2, d3, _⟩ := hti.at HX.out
      subst he9
      obtain ⟨ox, hof⟩ : ∃ z, ox0 + i * 4 = z := ⟨_, rfl⟩
      have oxE := hof
      rw [hof] at d0 d1 d2 d3
      obtain ⟨sx, hsv9⟩ : ∃ z, Value.slice q1 x.2.2.2.length q2 = z := ⟨_, rfl⟩
      rw [hsv9] at d3
      have hstsx : (∀ (w : World) (a : Addr) (m : Mode), (store a sx m).run Tryd.prog w = stored Tryd.prog w a sx m) := by subst hsv9; exact fun w a m => run_store Tryd.prog w a _ m rfl
      have HCX := Lib.hid (show C4 W16 bx ox (.int .i64 x.1) (.float .f64 x.2.1) (.int .i32 x.2.2.1) (sx) from ⟨d0, d1, d2, d3⟩)
      clear hut hti d0 d1 d2 d3 hsv9 hof
      
      clear hok
      clear hB
      refine hK.out _ _ ?_ (fun hHeld => ?_)
      · exact ⟨HA.out.2.1, HA.out.2.2.1, HA.out.2.2.2.1, HA2.out.2.1, HA2.out.2.2.1, HA2.out.2.2.2.1⟩
      clear hK K
      refine anyH_str (S' := fun w' => w'.cell? ⟨w.heap.size, 0, none⟩ = some (.slice so p.s.length sc) ∧ w'.cell? ⟨w.heap.size, 1, none⟩ = some (.slice io n ic) ∧ w'.cell? ⟨w.heap.size, 2, none⟩ = some (.int .i64 f) ∧ w'.cell? ⟨w.heap.size + 1, 0, none⟩ = some (.slice qo q.s.length qc) ∧ w'.cell? ⟨w.heap.size + 1, 1, none⟩ = some (.slice jo m jc) ∧ w'.cell? ⟨w.heap.size + 1, 2, none⟩ = some (.int .i64 g) ∧ w'.cell? ⟨bx, ox, none⟩ = some (.int .i64 x.1) ∧ w'.cell? ⟨bx, ox + 1, none⟩ = some (.float .f64 x.2.1) ∧ w'.cell? ⟨bx, ox + 2, none⟩ = some (.int .i32 x.2.2.1) ∧ w'.cell? ⟨bx, ox + 3, none⟩ = some (sx)) (fun _ h => ⟨h.1, h.2.1, h.2.2.1, h.2.2.2.1, h.2.2.2.2.1, h.2.2.2.2.2.1⟩) _ _ _ _ ?_
      replace hHeld := (show (fun w' => w'.cell? ⟨w.heap.size, 0, none⟩ = some (.slice so p.s.length sc) ∧ w'.cell? ⟨w.heap.size, 1, none⟩ = some (.slice io n ic) ∧ w'.cell? ⟨w.heap.size, 2, none⟩ = some (.int .i64 f) ∧ w'.cell? ⟨w.heap.size + 1, 0, none⟩ = some (.slice qo q.s.length qc) ∧ w'.cell? ⟨w.heap.size + 1, 1, none⟩ = some (.slice jo m jc) ∧ w'.cell? ⟨w.heap.size + 1, 2, none⟩ = some (.int .i64 g) ∧ w'.cell? ⟨bx, ox, none⟩ = some (.int .i64 x.1) ∧ w'.cell? ⟨bx, ox + 1, none⟩ = some (.float .f64 x.2.1) ∧ w'.cell? ⟨bx, ox + 2, none⟩ = some (.int .i32 x.2.2.1) ∧ w'.cell? ⟨bx, ox + 3, none⟩ = some (sx)) W16 from ⟨HA.out.2.1, HA.out.2.2.1, HA.out.2.2.2.1, HA2.out.2.1, HA2.out.2.2.1, HA2.out.2.2.2.1, HCX.out.1, HCX.out.2.1, HCX.out.2.2.1, HCX.out.2.2.2⟩)
      refine wpAnyH_take (i := 2) (v := ?_) rfl (by kernel_rfl) (by kernel_rfl) (by kernel_rfl) (fun _ _ _ h => absurd h.1 (by simp)) (Or.inl ⟨by rfl, ?_⟩) (by assumption) ?_
      rotate_left
      · (intro w hSw; (try dsimp only at hSw); go_simp; try with_reducible rfl)
      simp only [Act.put, List.getElem_toArray, List.getElem_cons_succ, List.getElem_cons_zero, List.setIfInBounds_toArray, List.set_cons_zero, List.set_cons_succ]
      refine wpAnyH_take (i := 4) (v := ?_) rfl (by kernel_rfl) (by kernel_rfl) (by kernel_rfl) (fun _ _ _ h => absurd h.1 (by simp)) (Or.inl ⟨by rfl, ?_⟩) (by assumption) ?_
      rotate_left
      · (intro w hSw; (try dsimp only at hSw); go_simp; try with_reducible rfl)
      simp only [Act.put, List.getElem_toArray, List.getElem_cons_succ, List.getElem_cons_zero, List.setIfInBounds_toArray, List.set_cons_zero, List.set_cons_succ]
      refine wpAnyH_take (i := 5) (v := ?_) rfl (by kernel_rfl) (by kernel_rfl) (by kernel_rfl) (fun _ _ _ h => absurd h.1 (by simp)) (Or.inl ⟨by rfl, ?_⟩) (by assumption) ?_
      rotate_left
      · (intro w hSw; (try dsimp only at hSw); go_simp; try with_reducible rfl)
      simp only [Act.put, List.getElem_toArray, List.getElem_cons_succ, List.getElem_cons_zero, List.setIfInBounds_toArray, List.set_cons_zero, List.set_cons_succ]
      refine wpAnyH_ready (rs := [7, 12, 13]) (by kernel_rfl) (by simp) ?_
      refine AllReadyH.cons (o := _) rfl (fun K hK => ?_) ?_
      · clear hHeld
        go_simp
        skip
        refine (ptidy_calls 40 _ q _ _ HCQ.out HIW2.out).mono ?_
        rintro e W17 ⟨ut, rfl, hut, hB⟩
        replace HA := Lib.hid (HA.out.below hB)
        replace HA2 := Lib.hid (HA2.out.below hB)
        replace HW0 := Lib.hid (HW0.out.trans (hB.mono HW0.out.size))
        replace HIW := Lib.hid (HIW.out.grow hB)
        replace HIW2 := Lib.hid (HIW2.out.grow hB)
        replace HCX := Lib.hid (HCX.out.below hB)
        obtain ⟨tyo, tyc, tyi, tyd, rfl, _, hti⟩ := hut.opened
        rw [HLT2.out, HM.out] at hti ⊢
        obtain ⟨by_, oy0, q1, q2, he9, hok, d0, d1, d2, d3, _⟩ := hti.at HY.out
        subst he9
        obtain ⟨oy, hof⟩ : ∃ z, oy0 + k * 4 = z := ⟨_, rfl⟩
        have oyE := hof
        rw [hof] at d0 d1 d2 d3
        obtain ⟨sy, hsv9⟩ : ∃ z, Value.slice q1 y.2.2.2.length q2 = z := ⟨_, rfl⟩
        rw [hsv9] at d3
        have hstsy : (∀ (w : World) (a : Addr) (m : Mode), (store a sy m).run Tryd.prog w = stored Tryd.prog w a sy m) := by subst hsv9; exact fun w a m => run_store Tryd.prog w a _ m rfl
        have HCY := Lib.hid (show C4 W17 by_ oy (.int .i64 y.1) (.float .f64 y.2.1) (.int .i32 y.2.2.1) (sy) from ⟨d0, d1, d2, d3⟩)
        clear hut hti d0 d1 d2 d3 hsv9 hof
        
        clear hok
        clear hB
        refine hK.out _ _ ?_ (fun hHeld => ?_)
        · exact ⟨HA.out.2.1, HA.out.2.2.1, HA.out.2.2.2.1, HA2.out.2.1, HA2.out.2.2.1, HA2.out.2.2.2.1, HCX.out.1, HCX.out.2.1, HCX.out.2.2.1, HCX.out.2.2.2⟩
        clear hK K
        refine anyH_str (S' := fun w' => w'.cell? ⟨w.heap.size, 0, none⟩ = some (.slice so p.s.length sc) ∧ w'.cell? ⟨w.heap.size, 1, none⟩ = some (.slice io n ic) ∧ w'.cell? ⟨w.heap.size, 2, none⟩ = some (.int .i64 f) ∧ w'.cell? ⟨w.heap.size + 1, 0, none⟩ = some (.slice qo q.s.length qc) ∧ w'.cell? ⟨w.heap.size + 1, 1, none⟩ = some (.slice jo m jc) ∧ w'.cell? ⟨w.heap.size + 1, 2, none⟩ = some (.int .i64 g) ∧ w'.cell? ⟨bx, ox, none⟩ = some (.int .i64 x.1) ∧ w'.cell? ⟨bx, ox + 1, none⟩ = some (.float .f64 x.2.1) ∧ w'.cell? ⟨bx, ox + 2, none⟩ = some (.int .i32 x.2.2.1) ∧ w'.cell? ⟨bx, ox + 3, none⟩ = some (sx) ∧ w'.cell? ⟨by_, oy, none⟩ = some (.int .i64 y.1) ∧ w'.cell? ⟨by_, oy + 1, none⟩ = some (.float .f64 y.2.1) ∧ w'.cell? ⟨by_, oy + 2, none⟩ = some (.int .i32 y.2.2.1) ∧ w'.cell? ⟨by_, oy + 3, none⟩ = some (sy)) (fun _ h => ⟨h.1, h.2.1, h.2.2.1, h.2.2.2.1, h.2.2.2.2.1, h.2.2.2.2.2.1, h.2.2.2.2.2.2.1, h.2.2.2.2.2.2.2.1, h.2.2.2.2.2.2.2.2.1, h.2.2.2.2.2.2.2.2.2.1⟩) _ _ _ _ ?_
        replace hHeld := (show (fun w' => w'.cell? ⟨w.heap.size, 0, none⟩ = some (.slice so p.s.length sc) ∧ w'.cell? ⟨w.heap.size, 1, none⟩ = some (.slice io n ic) ∧ w'.cell? ⟨w.heap.size, 2, none⟩ = some (.int .i64 f) ∧ w'.cell? ⟨w.heap.size + 1, 0, none⟩ = some (.slice qo q.s.length qc) ∧ w'.cell? ⟨w.heap.size + 1, 1, none⟩ = some (.slice jo m jc) ∧ w'.cell? ⟨w.heap.size + 1, 2, none⟩ = some (.int .i64 g) ∧ w'.cell? ⟨bx, ox, none⟩ = some (.int .i64 x.1) ∧ w'.cell? ⟨bx, ox + 1, none⟩ = some (.float .f64 x.2.1) ∧ w'.cell? ⟨bx, ox + 2, none⟩ = some (.int .i32 x.2.2.1) ∧ w'.cell? ⟨bx, ox + 3, none⟩ = some (sx) ∧ w'.cell? ⟨by_, oy, none⟩ = some (.int .i64 y.1) ∧ w'.cell? ⟨by_, oy + 1, none⟩ = some (.float .f64 y.2.1) ∧ w'.cell? ⟨by_, oy + 2, none⟩ = some (.int .i32 y.2.2.1) ∧ w'.cell? ⟨by_, oy + 3, none⟩ = some (sy)) W17 from ⟨HA.out.2.1, HA.out.2.2.1, HA.out.2.2.2.1, HA2.out.2.1, HA2.out.2.2.1, HA2.out.2.2.2.1, HCX.out.1, HCX.out.2.1, HCX.out.2.2.1, HCX.out.2.2.2, HCY.out.1, HCY.out.2.1, HCY.out.2.2.1, HCY.out.2.2.2⟩)
        refine wpAnyH_take (i := 8) (v := ?_) rfl (by kernel_rfl) (by kernel_rfl) (by kernel_rfl) (fun _ _ _ h => absurd h.1 (by simp)) (Or.inl ⟨by rfl, ?_⟩) (by assumption) ?_
        rotate_left
        · (intro w hSw; (try dsimp only at hSw); go_simp; try with_reducible rfl)
        simp only [Act.put, List.getElem_toArray, List.getElem_cons_succ, List.getElem_cons_zero, List.setIfInBounds_toArray, List.set_cons_zero, List.set_cons_succ]
        refine wpAnyH_take (i := 10) (v := ?_) rfl (by kernel_rfl) (by kernel_rfl) (by kernel_rfl) (fun _ _ _ h => absurd h.1 (by simp)) (Or.inl ⟨by rfl, ?_⟩) (by assumption) ?_
        rotate_left
        · (intro w hSw; (try dsimp only at hSw); go_simp; try with_reducible rfl)
        simp only [Act.put, List.getElem_toArray, List.getElem_cons_succ, List.getElem_cons_zero, List.setIfInBounds_toArray, List.set_cons_zero, List.set_cons_succ]
        refine wpAnyH_take (i := 11) (v := ?_) rfl (by kernel_rfl) (by kernel_rfl) (by kernel_rfl) (fun _ _ _ h => absurd h.1 (by simp)) (Or.inl ⟨by rfl, ?_⟩) (by assumption) ?_
        rotate_left
        · (intro w hSw; (try dsimp only at hSw); go_simp; try with_reducible rfl)
        simp only [Act.put, List.getElem_toArray, List.getElem_cons_succ, List.getElem_cons_zero, List.setIfInBounds_toArray, List.set_cons_zero, List.set_cons_succ]
        refine wpAnyH_ready (rs := [12, 13]) (by kernel_rfl) (by simp) ?_
        refine AllReadyH.cons (o := _) rfl (fun K hK => ?_) ?_
        · clear hHeld
          go_simp
          obtain ⟨W18, hWn⟩ : ∃ xw9, W17.alloc (.cells #[.int .i64 0, .float .f64 0, .int .i32 0, .slice none 0 0] 32) = xw9 := ⟨_, rfl⟩
          have hB : Below W17.heap.size W17 W18 := by rw [← hWn]; exact below_new _ _
          have hNB : Blk4 W18 W17.heap.size (.int .i64 0) (.float .f64 0) (.int .i32 0) (.slice none 0 0) := by rw [← hWn]; exact Blk4.new _ _ _ _ _ _
          have hge : W14.heap.size ≤ W17.heap.size := HW0.out.size
          rw [hWn]
          clear hWn
          obtain ⟨rx, hnm⟩ : ∃ z, W17.heap.size = z := ⟨_, rfl⟩
          have NHCXrx := Lib.hid (show bx ≠ rx by have := HCX.out.lt; omega)
          have NHCYrx := Lib.hid (show by_ ≠ rx by have := HCY.out.lt; omega)
          rw [hnm] at hNB hge ⊢
          replace HA := Lib.hid (HA.out.below hB)
          replace HA2 := Lib.hid (HA2.out.below hB)
          replace HW0 := Lib.hid (HW0.out.trans (hB.mono HW0.out.size))
          replace HIW := Lib.hid (HIW.out.grow hB)
          replace HIW2 := Lib.hid (HIW2.out.grow hB)
          replace HCX := Lib.hid (HCX.out.below hB)
          replace HCY := Lib.hid (HCY.out.below hB)
          have HRX := Lib.hid hNB
          have HRXG := Lib.hid hge
          clear hNB hB hnm hge
          refine hK.out _ _ ?_ (fun hHeld => ?_)
          · exact ⟨HA.out.2.1, HA.out.2.2.1, HA.out.2.2.2.1, HA2.out.2.1, HA2.out.2.2.1, HA2.out.2.2.2.1, HCX.out.1, HCX.out.2.1, HCX.out.2.2.1, HCX.out.2.2.2, HCY.out.1, HCY.out.2.1, HCY.out.2.2.1, HCY.out.2.2.2⟩
          clear hK K
          refine wpAnyH_ready (rs := [13]) (by kernel_rfl) (by simp) ?_
          refine AllReadyH.cons (o := _) rfl (fun K hK => ?_) ?_
          · clear hHeld
            go_simp
            obtain ⟨W19, hWn⟩ : ∃ xw9, W18.alloc (.cells #[.int .i64 0, .float .f64 0, .int .i32 0, .slice none 0 0] 32) = xw9 := ⟨_, rfl⟩
            have hB : Below W18.heap.size W18 W19 := by rw [← hWn]; exact below_new _ _
            have hNB : Blk4 W19 W18.heap.size (.int .i64 0) (.float .f64 0) (.int .i32 0) (.slice none 0 0) := by rw [← hWn]; exact Blk4.new _ _ _ _ _ _
            have hge : W14.heap.size ≤ W18.heap.size := HW0.out.size
            rw [hWn]
            clear hWn
            obtain ⟨ry, hnm⟩ : ∃ z, W18.heap.size = z := ⟨_, rfl⟩
            have NHCXry := Lib.hid (show bx ≠ ry by have := HCX.out.lt; omega)
            have NHCYry := Lib.hid (show by_ ≠ ry by have := HCY.out.lt; omega)
            have HNE := Lib.hid (show rx ≠ ry by have := HRX.out.1; omega)
            rw [hnm] at hNB hge ⊢
            replace HA := Lib.hid (HA.out.below hB)
            replace HA2 := Lib.hid (HA2.out.below hB)
            replace HW0 := Lib.hid (HW0.out.trans (hB.mono HW0.out.size))
            replace HIW := Lib.hid (HIW.out.grow hB)
            replace HIW2 := Lib.hid (HIW2.out.grow hB)
            replace HCX := Lib.hid (HCX.out.below hB)
            replace HCY := Lib.hid (HCY.out.below hB)
            replace HRX := Lib.hid (HRX.out.below hB)
            have HRY := Lib.hid hNB
            have HRYG := Lib.hid hge
            clear hNB hB hnm hge
            refine hK.out _ _ ?_ (fun hHeld => ?_)
            · exact ⟨HA.out.2.1, HA.out.2.2.1, HA.out.2.2.2.1, HA2.out.2.1, HA2.out.2.2.1, HA2.out.2.2.2.1, HCX.out.1, HCX.out.2.1, HCX.out.2.2.1, HCX.out.2.2.2, HCY.out.1, HCY.out.2.1, HCY.out.2.2.1, HCY.out.2.2.2⟩
            clear hK K
            refine wpAnyH_ready (rs := [14]) (by kernel_rfl) (by simp) ?_
            refine AllReadyH.cons (o := _) rfl (fun K hK => ?_) ?_
            · clear hHeld
              have s0 := HRX.out.2.1
              have s1 := HRX.out.2.2.1
              have s2 := HRX.out.2.2.2.1
              have s3 := HRX.out.2.2.2.2.1
              have z0 := HRX.out.2.2.2.2.2 0
              have z1 := HRX.out.2.2.2.2.2 1
              have z2 := HRX.out.2.2.2.2.2 2
              have z3 := HRX.out.2.2.2.2.2 3
              go_simp
              clear s0 s1 s2 s3 z0 z1 z2 z3
              obtain ⟨W20, hWn⟩ : ∃ xw9, set4 W19 rx (.int .i64 x.1) (.float .f64 x.2.1) (.int .i32 x.2.2.1) (sx) = xw9 := ⟨_, rfl⟩
              have hWn2 := hWn
              unfold set4 at hWn2
              rw [hWn2]
              clear hWn2
              replace HRX := Lib.hid (show Blk4 W20 rx (.int .i64 x.1) (.float .f64 x.2.1) (.int .i32 x.2.2.1) (sx) by rw [← hWn]; exact HRX.out.put4 _ _ _ _)
              replace HRY := Lib.hid (show Blk4 W20 ry _ _ _ _ by rw [← hWn]; exact HRY.out.far4 (Ne.symm HNE.out) _ _ _ _)
              replace HW0 := Lib.hid (show Below W14.heap.size W14 W20 by rw [← hWn]; exact below_set4 HW0.out HRXG.out _ _ _ _)
              replace HA := Lib.hid (HAS.out.below HW0.out)
              replace HA2 := Lib.hid (HAS2.out.below HW0.out)
              replace HCX := Lib.hid (show C4 W20 bx ox (.int .i64 x.1) (.float .f64 x.2.1) (.int .i32 x.2.2.1) (sx) by rw [← hWn]; exact HCX.out.far NHCXrx.out _ _ _ _)
              replace HCY := Lib.hid (show C4 W20 by_ oy (.int .i64 y.1) (.float .f64 y.2.1) (.int .i32 y.2.2.1) (sy) by rw [← hWn]; exact HCY.out.far NHCYrx.out _ _ _ _)
              clear hWn
              refine hK.out _ _ ?_ (fun hHeld => ?_)
              · exact ⟨HA.out.2.1, HA.out.2.2.1, HA.out.2.2.2.1, HA2.out.2.1, HA2.out.2.2.1, HA2.out.2.2.2.1, HCX.out.1, HCX.out.2.1, HCX.out.2.2.1, HCX.out.2.2.2, HCY.out.1, HCY.out.2.1, HCY.out.2.2.1, HCY.out.2.2.2⟩
              clear hK K
              refine wpAnyH_ready (rs := [15]) (by kernel_rfl) (by simp) ?_
              refine AllReadyH.cons (o := _) rfl (fun K hK => ?_) ?_
              · clear hHeld
                have s0 := HRY.out.2.1
                have s1 := HRY.out.2.2.1
                have s2 := HRY.out.2.2.2.1
                have s3 := HRY.out.2.2.2.2.1
                have z0 := HRY.out.2.2.2.2.2 0
                have z1 := HRY.out.2.2.2.2.2 1
                have z2 := HRY.out.2.2.2.2.2 2
                have z3 := HRY.out.2.2.2.2.2 3
                go_simp
                clear s0 s1 s2 s3 z0 z1 z2 z3
                obtain ⟨W21, hWn⟩ : ∃ xw9, set4 W20 ry (.int .i64 y.1) (.float .f64 y.2.1) (.int .i32 y.2.2.1) (sy) = xw9 := ⟨_, rfl⟩
                have hWn2 := hWn
                unfold set4 at hWn2
                rw [hWn2]
                clear hWn2
                replace HRY := Lib.hid (show Blk4 W21 ry (.int .i64 y.1) (.float .f64 y.2.1) (.int .i32 y.2.2.1) (sy) by rw [← hWn]; exact HRY.out.put4 _ _ _ _)
                replace HRX := Lib.hid (show Blk4 W21 rx _ _ _ _ by rw [← hWn]; exact HRX.out.far4 HNE.out _ _ _ _)
                replace HW0 := Lib.hid (show Below W14.heap.size W14 W21 by rw [← hWn]; exact below_set4 HW0.out HRYG.out _ _ _ _)
                replace HA := Lib.hid (HAS.out.below HW0.out)
                replace HA2 := Lib.hid (HAS2.out.below HW0.out)
                replace HCX := Lib.hid (show C4 W21 bx ox (.int .i64 x.1) (.float .f64 x.2.1) (.int .i32 x.2.2.1) (sx) by rw [← hWn]; exact HCX.out.far NHCXry.out _ _ _ _)
                replace HCY := Lib.hid (show C4 W21 by_ oy (.int .i64 y.1) (.float .f64 y.2.1) (.int .i32 y.2.2.1) (sy) by rw [← hWn]; exact HCY.out.far NHCYry.out _ _ _ _)
                clear hWn
                refine hK.out _ _ ?_ (fun hHeld => ?_)
                · exact ⟨HA.out.2.1, HA.out.2.2.1, HA.out.2.2.2.1, HA2.out.2.1, HA2.out.2.2.1, HA2.out.2.2.2.1, HCX.out.1, HCX.out.2.1, HCX.out.2.2.1, HCX.out.2.2.2, HCY.out.1, HCY.out.2.1, HCY.out.2.2.1, HCY.out.2.2.2⟩
                clear hK K
                refine wpAnyH_done (by kernel_rfl) ?_ _
                clear hHeld
                refine ⟨rfl, .agg #[.slice txo (tidyP 40 p).s.length txc, .slice (some ⟨bx, ox0, none⟩) n txd, .int .i64 (tidyP 40 p).f], .slice (some ⟨bx, ox0, none⟩) n txd, .pointer (some ⟨bx, ox, none⟩), .agg #[.slice tyo (tidyP 40 q).s.length tyc, .slice (some ⟨by_, oy0, none⟩) m tyd, .int .i64 (tidyP 40 q).f], .slice (some ⟨by_, oy0, none⟩) m tyd, .pointer (some ⟨by_, oy, none⟩), sx, sy, rx, ry, ?_, HRX.out, HRY.out, HW0.out⟩
                first | rfl | kernel_rfl
              exact AllReadyH.nil
            exact AllReadyH.nil
          exact AllReadyH.nil
        refine AllReadyH.cons (o := _) rfl (fun K hK => ?_) ?_
        · clear hHeld
          go_simp
          obtain ⟨W18, hWn⟩ : ∃ xw9, W17.alloc (.cells #[.int .i64 0, .float .f64 0, .int .i32 0, .slice none 0 0] 32) = xw9 := ⟨_, rfl⟩
          have hB : Below W17.heap.size W17 W18 := by rw [← hWn]; exact below_new _ _
          have hNB : Blk4 W18 W17.heap.size (.int .i64 0) (.float .f64 0) (.int .i32 0) (.slice none 0 0) := by rw [← hWn]; exact Blk4.new _ _ _ _ _ _
          have hge : W14.heap.size ≤ W17.heap.size := HW0.out.size
          rw [hWn]
          clear hWn
          obtain ⟨ry, hnm⟩ : ∃ z, W17.heap.size = z := ⟨_, rfl⟩
          have NHCXry := Lib.hid (show bx ≠ ry by have := HCX.out.lt; omega)
          have NHCYry := Lib.hid (show by_ ≠ ry by have := HCY.out.lt; omega)
          rw [hnm] at hNB hge ⊢
          replace HA := Lib.hid (HA.out.below hB)
          replace HA2 := Lib.hid (HA2.out.below hB)
          replace HW0 := Lib.hid (HW0.out.trans (hB.mono HW0.out.size))
          replace HIW := Lib.hid (HIW.out.grow hB)
          replace HIW2 := Lib.hid (HIW2.out.grow hB)
          replace HCX := Lib.hid (HCX.out.below hB)
          replace HCY := Lib.hid (HCY.out.below hB)
          have HRY := Lib.hid hNB
          have HRYG := Lib.hid hge
          clear hNB hB hnm hge
          refine hK.out _ _ ?_ (fun hHeld => ?_)
          · exact ⟨HA.out.2.1, HA.out.2.2.1, HA.out.2.2.2.1, HA2.out.2.1, HA2.out.2.2.1, HA2.out.2.2.2.1, HCX.out.1, HCX.out.2.1, HCX.out.2.2.1, HCX.out.2.2.2, HCY.out.1, HCY.out.2.1, HCY.out.2.2.1, HCY.out.2.2.2⟩
          clear hK K
          refine wpAnyH_ready (rs := [12]) (by kernel_rfl) (by simp) ?_
          refine AllReadyH.cons (o := _) rfl (fun K hK => ?_) ?_
          · clear hHeld
            go_simp
            obtain ⟨W19, hWn⟩ : ∃ xw9, W18.alloc (.cells #[.int .i64 0, .float .f64 0, .int .i32 0, .slice none 0 0] 32) = xw9 := ⟨_, rfl⟩
            have hB : Below W18.heap.size W18 W19 := by rw [← hWn]; exact below_new _ _
            have hNB : Blk4 W19 W18.heap.size (.int .i64 0) (.float .f64 0) (.int .i32 0) (.slice none 0 0) := by rw [← hWn]; exact Blk4.new _ _ _ _ _ _
            have hge : W14.heap.size ≤ W18.heap.size := HW0.out.size
            rw [hWn]
            clear hWn
            obtain ⟨rx, hnm⟩ : ∃ z, W18.heap.size = z := ⟨_, rfl⟩
            have NHCXrx := Lib.hid (show bx ≠ rx by have := HCX.out.lt; omega)
            have NHCYrx := Lib.hid (show by_ ≠ rx by have := HCY.out.lt; omega)
            have HNE := Lib.hid (show ry ≠ rx by have := HRY.out.1; omega)
            rw [hnm] at hNB hge ⊢
            replace HA := Lib.hid (HA.out.below hB)
            replace HA2 := Lib.hid (HA2.out.below hB)
            replace HW0 := Lib.hid (HW0.out.trans (hB.mono HW0.out.size))
            replace HIW := Lib.hid (HIW.out.grow hB)
            replace HIW2 := Lib.hid (HIW2.out.grow hB)
            replace HCX := Lib.hid (HCX.out.below hB)
            replace HCY := Lib.hid (HCY.out.below hB)
            replace HRY := Lib.hid (HRY.out.below hB)
            have HRX := Lib.hid hNB
            have HRXG := Lib.hid hge
            clear hNB hB hnm hge
            refine hK.out _ _ ?_ (fun hHeld => ?_)
            · exact ⟨HA.out.2.1, HA.out.2.2.1, HA.out.2.2.2.1, HA2.out.2.1, HA2.out.2.2.1, HA2.out.2.2.2.1, HCX.out.1, HCX.out.2.1, HCX.out.2.2.1, HCX.out.2.2.2, HCY.out.1, HCY.out.2.1, HCY.out.2.2.1, HCY.out.2.2.2⟩
            clear hK K
            refine wpAnyH_ready (rs := [14]) (by kernel_rfl) (by simp) ?_
            refine AllReadyH.cons (o := _) rfl (fun K hK => ?_) ?_
            · clear hHeld
              have s0 := HRX.out.2.1
              have s1 := HRX.out.2.2.1
              have s2 := HRX.out.2.2.2.1
              have s3 := HRX.out.2.2.2.2.1
              have z0 := HRX.out.2.2.2.2.2 0
              have z1 := HRX.out.2.2.2.2.2 1
              have z2 := HRX.out.2.2.2.2.2 2
              have z3 := HRX.out.2.2.2.2.2 3
              go_simp
              clear s0 s1 s2 s3 z0 z1 z2 z3
              obtain ⟨W20, hWn⟩ : ∃ xw9, set4 W19 rx (.int .i64 x.1) (.float .f64 x.2.1) (.int .i32 x.2.2.1) (sx) = xw9 := ⟨_, rfl⟩
              have hWn2 := hWn
              unfold set4 at hWn2
              rw [hWn2]
              clear hWn2
              replace HRX := Lib.hid (show Blk4 W20 rx (.int .i64 x.1) (.float .f64 x.2.1) (.int .i32 x.2.2.1) (sx) by rw [← hWn]; exact HRX.out.put4 _ _ _ _)
              replace HRY := Lib.hid (show Blk4 W20 ry _ _ _ _ by rw [← hWn]; exact HRY.out.far4 HNE.out _ _ _ _)
              replace HW0 := Lib.hid (show Below W14.heap.size W14 W20 by rw [← hWn]; exact below_set4 HW0.out HRXG.out _ _ _ _)
              replace HA := Lib.hid (HAS.out.below HW0.out)
              replace HA2 := Lib.hid (HAS2.out.below HW0.out)
              replace HCX := Lib.hid (show C4 W20 bx ox (.int .i64 x.1) (.float .f64 x.2.1) (.int .i32 x.2.2.1) (sx) by rw [← hWn]; exact HCX.out.far NHCXrx.out _ _ _ _)
              replace HCY := Lib.hid (show C4 W20 by_ oy (.int .i64 y.1) (.float .f64 y.2.1) (.int .i32 y.2.2.1) (sy) by rw [← hWn]; exact HCY.out.far NHCYrx.out _ _ _ _)
              clear hWn
              refine hK.out _ _ ?_ (fun hHeld => ?_)
              · exact ⟨HA.out.2.1, HA.out.2.2.1, HA.out.2.2.2.1, HA2.out.2.1, HA2.out.2.2.1, HA2.out.2.2.2.1, HCX.out.1, HCX.out.2.1, HCX.out.2.2.1, HCX.out.2.2.2, HCY.out.1, HCY.out.2.1, HCY.out.2.2.1, HCY.out.2.2.2⟩
              clear hK K
              refine wpAnyH_ready (rs := [15]) (by kernel_rfl) (by simp) ?_
              refine AllReadyH.cons (o := _) rfl (fun K hK => ?_) ?_
              · clear hHeld
                have s0 := HRY.out.2.1
                have s1 := HRY.out.2.2.1
                have s2 := HRY.out.2.2.2.1
                have s3 := HRY.out.2.2.2.2.1
                have z0 := HRY.out.2.2.2.2.2 0
                have z1 := HRY.out.2.2.2.2.2 1
                have z2 := HRY.out.2.2.2.2.2 2
                have z3 := HRY.out.2.2.2.2.2 3
                go_simp
                clear s0 s1 s2 s3 z0 z1 z2 z3
                obtain ⟨W21, hWn⟩ : ∃ xw9, set4 W20 ry (.int .i64 y.1) (.float .f64 y.2.1) (.int .i32 y.2.2.1) (sy) = xw9 := ⟨_, rfl⟩
                have hWn2 := hWn
                unfold set4 at hWn2
                rw [hWn2]
                clear hWn2
                replace HRY := Lib.hid (show Blk4 W21 ry (.int .i64 y.1) (.float .f64 y.2.1) (.int .i32 y.2.2.1) (sy) by rw [← hWn]; exact HRY.out.put4 _ _ _ _)
                replace HRX := Lib.hid (show Blk4 W21 rx _ _ _ _ by rw [← hWn]; exact HRX.out.far4 (Ne.symm HNE.out) _ _ _ _)
                replace HW0 := Lib.hid (show Below W14.heap.size W14 W21 by rw [← hWn]; exact below_set4 HW0.out HRYG.out _ _ _ _)
                replace HA := Lib.hid (HAS.out.below HW0.out)
                replace HA2 := Lib.hid (HAS2.out.below HW0.out)
                replace HCX := Lib.hid (show C4 W21 bx ox (.int .i64 x.1) (.float .f64 x.2.1) (.int .i32 x.2.2.1) (sx) by rw [← hWn]; exact HCX.out.far NHCXry.out _ _ _ _)
                replace HCY := Lib.hid (show C4 W21 by_ oy (.int .i64 y.1) (.float .f64 y.2.1) (.int .i32 y.2.2.1) (sy) by rw [← hWn]; exact HCY.out.far NHCYry.out _ _ _ _)
                clear hWn
                refine hK.out _ _ ?_ (fun hHeld => ?_)
                · exact ⟨HA.out.2.1, HA.out.2.2.1, HA.out.2.2.2.1, HA2.out.2.1, HA2.out.2.2.1, HA2.out.2.2.2.1, HCX.out.1, HCX.out.2.1, HCX.out.2.2.1, HCX.out.2.2.2, HCY.out.1, HCY.out.2.1, HCY.out.2.2.1, HCY.out.2.2.2⟩
                clear hK K
                refine wpAnyH_done (by kernel_rfl) ?_ _
                clear hHeld
                refine ⟨rfl, .agg #[.slice txo (tidyP 40 p).s.length txc, .slice (some ⟨bx, ox0, none⟩) n txd, .int .i64 (tidyP 40 p).f], .slice (some ⟨bx, ox0, none⟩) n txd, .pointer (some ⟨bx, ox, none⟩), .agg #[.slice tyo (tidyP 40 q).s.length tyc, .slice (some ⟨by_, oy0, none⟩) m tyd, .int .i64 (tidyP 40 q).f], .slice (some ⟨by_, oy0, none⟩) m tyd, .pointer (some ⟨by_, oy, none⟩), sx, sy, rx, ry, ?_, HRX.out, HRY.out, HW0.out⟩
                first | rfl | kernel_rfl
              exact AllReadyH.nil
            exact AllReadyH.nil
          exact AllReadyH.nil
        exact AllReadyH.nil
      refine AllReadyH.cons (o := _) rfl (fun K hK => ?_) ?_
      · clear hHeld
        go_simp
        obtain ⟨W17, hWn⟩ : ∃ xw9, W16.alloc (.cells #[.int .i64 0, .float .f64 0, .int .i32 0, .slice none 0 0] 32) = xw9 := ⟨_, rfl⟩
        have hB : Below W16.heap.size W16 W17 := by rw [← hWn]; exact below_new _ _
        have hNB : Blk4 W17 W16.heap.size (.int .i64 0) (.float .f64 0) (.int .i32 0) (.slice none 0 0) := by rw [← hWn]; exact Blk4.new _ _ _ _ _ _
        have hge : W14.heap.size ≤ W16.heap.size := HW0.out.size
        rw [hWn]
        clear hWn
        obtain ⟨rx, hnm⟩ : ∃ z, W16.heap.size = z := ⟨_, rfl⟩
        have NHCXrx := Lib.hid (show bx ≠ rx by have := HCX.out.lt; omega)
        rw [hnm] at hNB hge ⊢
        replace HA := Lib.hid (HA.out.below hB)
        replace HA2 := Lib.hid (HA2.out.below hB)
        replace HW0 := Lib.hid (HW0.out.trans (hB.mono HW0.out.size))
        replace HIW := Lib.hid (HIW.out.grow hB)
        replace HIW2 := Lib.hid (HIW2.out.grow hB)
        replace HCX := Lib.hid (HCX.out.below hB)
        have HRX := Lib.hid hNB
        have HRXG := Lib.hid hge
        clear hNB hB hnm hge
        refine hK.out _ _ ?_ (fun hHeld => ?_)
        · exact ⟨HA.out.2.1, HA.out.2.2.1, HA.out.2.2.2.1, HA2.out.2.1, HA2.out.2.2.1, HA2.out.2.2.2.1, HCX.out.1, HCX.out.2.1, HCX.out.2.2.1, HCX.out.2.2.2⟩
        clear hK K
        refine wpAnyH_ready (rs := [7, 13]) (by kernel_rfl) (by simp) ?_
        refine AllReadyH.cons (o := _) rfl (fun K hK => ?_) ?_
        · clear hHeld
          go_simp
          have hrx := HRX.out.1
          have grx := HRXG.out
          refine (ptidy_calls 40 _ q _ _ HCQ.out HIW2.out).mono ?_
          rintro e W18 ⟨ut, rfl, hut, hB⟩
          replace HA := Lib.hid (HA.out.below hB)
          replace HA2 := Lib.hid (HA2.out.below hB)
          replace HW0 := Lib.hid (HW0.out.trans (hB.mono HW0.out.size))
          replace HIW := Lib.hid (HIW.out.grow hB)
          replace HIW2 := Lib.hid (HIW2.out.grow hB)
          replace HCX := Lib.hid (HCX.out.below hB)
          replace HRX := Lib.hid (HRX.out.below hB)
          obtain ⟨tyo, tyc, tyi, tyd, rfl, _, hti⟩ := hut.opened
          rw [HLT2.out, HM.out] at hti ⊢
          obtain ⟨by_, oy0, q1, q2, he9, hok, d0, d1, d2, d3, _⟩ := hti.at HY.out
          subst he9
          obtain ⟨oy, hof⟩ : ∃ z, oy0 + k * 4 = z := ⟨_, rfl⟩
          have oyE := hof
          rw [hof] at d0 d1 d2 d3
          obtain ⟨sy, hsv9⟩ : ∃ z, Value.slice q1 y.2.2.2.length q2 = z := ⟨_, rfl⟩
          rw [hsv9] at d3
          have hstsy : (∀ (w : World) (a : Addr) (m : Mode), (store a sy m).run Tryd.prog w = stored Tryd.prog w a sy m) := by subst hsv9; exact fun w a m => run_store Tryd.prog w a _ m rfl
          have HCY := Lib.hid (show C4 W18 by_ oy (.int .i64 y.1) (.float .f64 y.2.1) (.int .i32 y.2.2.1) (sy) from ⟨d0, d1, d2, d3⟩)
          clear hut hti d0 d1 d2 d3 hsv9 hof
          have NHCYrx := Lib.hid (show by_ ≠ rx by rcases hok with ⟨⟨_, h1⟩, _⟩ | h1 <;> omega)
          clear hrx grx
          clear hok
          clear hB
          refine hK.out _ _ ?_ (fun hHeld => ?_)
          · exact ⟨HA.out.2.1, HA.out.2.2.1, HA.out.2.2.2.1, HA2.out.2.1, HA2.out.2.2.1, HA2.out.2.2.2.1, HCX.out.1, HCX.out.2.1, HCX.out.2.2.1, HCX.out.2.2.2⟩
          clear hK K
          refine anyH_str (S' := fun w' => w'.cell? ⟨w.heap.size, 0, none⟩ = some (.slice so p.s.length sc) ∧ w'.cell? ⟨w.heap.size, 1, none⟩ = some (.slice io n ic) ∧ w'.cell? ⟨w.heap.size, 2, none⟩ = some (.int .i64 f) ∧ w'.cell? ⟨w.heap.size + 1, 0, none⟩ = some (.slice qo q.s.length qc) ∧ w'.cell? ⟨w.heap.size + 1, 1, none⟩ = some (.slice jo m jc) ∧ w'.cell? ⟨w.heap.size + 1, 2, none⟩ = some (.int .i64 g) ∧ w'.cell? ⟨bx, ox, none⟩ = some (.int .i64 x.1) ∧ w'.cell? ⟨bx, ox + 1, none⟩ = some (.float .f64 x.2.1) ∧ w'.cell? ⟨bx, ox + 2, none⟩ = some (.int .i32 x.2.2.1) ∧ w'.cell? ⟨bx, ox + 3, none⟩ = some (sx) ∧ w'.cell? ⟨by_, oy, none⟩ = some (.int .i64 y.1) ∧ w'.cell? ⟨by_, oy + 1, none⟩ = some (.float .f64 y.2.1) ∧ w'.cell? ⟨by_, oy + 2, none⟩ = some (.int .i32 y.2.2.1) ∧ w'.cell? ⟨by_, oy + 3, none⟩ = some (sy)) (fun _ h => ⟨h.1, h.2.1, h.2.2.1, h.2.2.2.1, h.2.2.2.2.1, h.2.2.2.2.2.1, h.2.2.2.2.2.2.1, h.2.2.2.2.2.2.2.1, h.2.2.2.2.2.2.2.2.1, h.2.2.2.2.2.2.2.2.2.1⟩) _ _ _ _ ?_
          replace hHeld := (show (fun w' => w'.cell? ⟨w.heap.size, 0, none⟩ = some (.slice so p.s.length sc) ∧ w'.cell? ⟨w.heap.size, 1, none⟩ = some (.slice io n ic) ∧ w'.cell? ⟨w.heap.size, 2, none⟩ = some (.int .i64 f) ∧ w'.cell? ⟨w.heap.size + 1, 0, none⟩ = some (.slice qo q.s.length qc) ∧ w'.cell? ⟨w.heap.size + 1, 1, none⟩ = some (.slice jo m jc) ∧ w'.cell? ⟨w.heap.size + 1, 2, none⟩ = some (.int .i64 g) ∧ w'.cell? ⟨bx, ox, none⟩ = some (.int .i64 x.1) ∧ w'.cell? ⟨bx, ox + 1, none⟩ = some (.float .f64 x.2.1) ∧ w'.cell? ⟨bx, ox + 2, none⟩ = some (.int .i32 x.2.2.1) ∧ w'.cell? ⟨bx, ox + 3, none⟩ = some (sx) ∧ w'.cell? ⟨by_, oy, none⟩ = some (.int .i64 y.1) ∧ w'.cell? ⟨by_, oy + 1, none⟩ = some (.float .f64 y.2.1) ∧ w'.cell? ⟨by_, oy + 2, none⟩ = some (.int .i32 y.2.2.1) ∧ w'.cell? ⟨by_, oy + 3, none⟩ = some (sy)) W18 from ⟨HA.out.2.1, HA.out.2.2.1, HA.out.2.2.2.1, HA2.out.2.1, HA2.out.2.2.1, HA2.out.2.2.2.1, HCX.out.1, HCX.out.2.1, HCX.out.2.2.1, HCX.out.2.2.2, HCY.out.1, HCY.out.2.1, HCY.out.2.2.1, HCY.out.2.2.2⟩)
          refine wpAnyH_take (i := 8) (v := ?_) rfl (by kernel_rfl) (by kernel_rfl) (by kernel_rfl) (fun _ _ _ h => absurd h.1 (by simp)) (Or.inl ⟨by rfl, ?_⟩) (by assumption) ?_
          rotate_left
          · (intro w hSw; (try dsimp only at hSw); go_simp; try with_reducible rfl)
          simp only [Act.put, List.getElem_toArray, List.getElem_cons_succ, List.getElem_cons_zero, List.setIfInBounds_toArray, List.set_cons_zero, List.set_cons_succ]
          refine wpAnyH_take (i := 10) (v := ?_) rfl (by kernel_rfl) (by kernel_rfl) (by kernel_rfl) (fun _ _ _ h => absurd h.1 (by simp)) (Or.inl ⟨by rfl, ?_⟩) (by assumption) ?_
          rotate_left
          · (intro w hSw; (try dsimp only at hSw); go_simp; try with_reducible rfl)
          simp only [Act.put, List.getElem_toArray, List.getElem_cons_succ, List.getElem_cons_zero, List.setIfInBounds_toArray, List.set_cons_zero, List.set_cons_succ]
          refine wpAnyH_take (i := 11) (v := ?_) rfl (by kernel_rfl) (by kernel_rfl) (by kernel_rfl) (fun _ _ _ h => absurd h.1 (by simp)) (Or.inl ⟨by rfl, ?_⟩) (by assumption) ?_
          rotate_left
          · (intro w hSw; (try dsimp only at hSw); go_simp; try with_reducible rfl)
          simp only [Act.put, List.getElem_toArray, List.getElem_cons_succ, List.getElem_cons_zero, List.setIfInBounds_toArray, List.set_cons_zero, List.set_cons_succ]
          refine wpAnyH_ready (rs := [13]) (by kernel_rfl) (by simp) ?_
          refine AllReadyH.cons (o := _) rfl (fun K hK => ?_) ?_
          · clear hHeld
            go_simp
            obtain ⟨W19, hWn⟩ : ∃ xw9, W18.alloc (.cells #[.int .i64 0, .float .f64 0, .int .i32 0, .slice none 0 0] 32) = xw9 := ⟨_, rfl⟩
            have hB : Below W18.heap.size W18 W19 := by rw [← hWn]; exact below_new _ _
            have hNB : Blk4 W19 W18.heap.size (.int .i64 0) (.float .f64 0) (.int .i32 0) (.slice none 0 0) := by rw [← hWn]; exact Blk4.new _ _ _ _ _ _
            have hge : W14.heap.size ≤ W18.heap.size := HW0.out.size
            rw [hWn]
            clear hWn
            obtain ⟨ry, hnm⟩ : ∃ z, W18.heap.size = z := ⟨_, rfl⟩
            have NHCXry := Lib.hid (show bx ≠ ry by have := HCX.out.lt; omega)
            have NHCYry := Lib.hid (show by_ ≠ ry by have := HCY.out.lt; omega)
            have HNE := Lib.hid (show rx ≠ ry by have := HRX.out.1; omega)
            rw [hnm] at hNB hge ⊢
            replace HA := Lib.hid (HA.out.below hB)
            replace HA2 := Lib.hid (HA2.out.below hB)
            replace HW0 := Lib.hid (HW0.out.trans (hB.mono HW0.out.size))
            replace HIW := Lib.hid (HIW.out.grow hB)
            replace HIW2 := Lib.hid (HIW2.out.grow hB)
            replace HCX := Lib.hid (HCX.out.below hB)
            replace HRX := Lib.hid (HRX.out.below hB)
            replace HCY := Lib.hid (HCY.out.below hB)
            have HRY := Lib.hid hNB
            have HRYG := Lib.hid hge
            clear hNB hB hnm hge
            refine hK.out _ _ ?_ (fun hHeld => ?_)
            · exact ⟨HA.out.2.1, HA.out.2.2.1, HA.out.2.2.2.1, HA2.out.2.1, HA2.out.2.2.1, HA2.out.2.2.2.1, HCX.out.1, HCX.out.2.1, HCX.out.2.2.1, HCX.out.2.2.2, HCY.out.1, HCY.out.2.1, HCY.out.2.2.1, HCY.out.2.2.2⟩
            clear hK K
            refine wpAnyH_ready (rs := [14]) (by kernel_rfl) (by simp) ?_
            refine AllReadyH.cons (o := _) rfl (fun K hK => ?_) ?_
            · clear hHeld
              have s0 := HRX.out.2.1
              have s1 := HRX.out.2.2.1
              have s2 := HRX.out.2.2.2.1
              have s3 := HRX.out.2.2.2.2.1
              have z0 := HRX.out.2.2.2.2.2 0
              have z1 := HRX.out.2.2.2.2.2 1
              have z2 := HRX.out.2.2.2.2.2 2
              have z3 := HRX.out.2.2.2.2.2 3
              go_simp
              clear s0 s1 s2 s3 z0 z1 z2 z3
              obtain ⟨W20, hWn⟩ : ∃ xw9, set4 W19 rx (.int .i64 x.1) (.float .f64 x.2.1) (.int .i32 x.2.2.1) (sx) = xw9 := ⟨_, rfl⟩
              have hWn2 := hWn
              unfold set4 at hWn2
              rw [hWn2]
              clear hWn2
              replace HRX := Lib.hid (show Blk4 W20 rx (.int .i64 x.1) (.float .f64 x.2.1) (.int .i32 x.2.2.1) (sx) by rw [← hWn]; exact HRX.out.put4 _ _ _ _)
              replace HRY := Lib.hid (show Blk4 W20 ry _ _ _ _ by rw [← hWn]; exact HRY.out.far4 (Ne.symm HNE.out) _ _ _ _)
              replace HW0 := Lib.hid (show Below W14.heap.size W14 W20 by rw [← hWn]; exact below_set4 HW0.out HRXG.out _ _ _ _)
              replace HA := Lib.hid (HAS.out.below HW0.out)
              replace HA2 := Lib.hid (HAS2.out.below HW0.out)
              replace HCX := Lib.hid (show C4 W20 bx ox (.int .i64 x.1) (.float .f64 x.2.1) (.int .i32 x.2.2.1) (sx) by rw [← hWn]; exact HCX.out.far NHCXrx.out _ _ _ _)
              replace HCY := Lib.hid (show C4 W20 by_ oy (.int .i64 y.1) (.float .f64 y.2.1) (.int .i32 y.2.2.1) (sy) by rw [← hWn]; exact HCY.out.far NHCYrx.out _ _ _ _)
              clear hWn
              refine hK.out _ _ ?_ (fun hHeld => ?_)
              · exact ⟨HA.out.2.1, HA.out.2.2.1, HA.out.2.2.2.1, HA2.out.2.1, HA2.out.2.2.1, HA2.out.2.2.2.1, HCX.out.1, HCX.out.2.1, HCX.out.2.2.1, HCX.out.2.2.2, HCY.out.1, HCY.out.2.1, HCY.out.2.2.1, HCY.out.2.2.2⟩
              clear hK K
              refine wpAnyH_ready (rs := [15]) (by kernel_rfl) (by simp) ?_
              refine AllReadyH.cons (o := _) rfl (fun K hK => ?_) ?_
              · clear hHeld
                have s0 := HRY.out.2.1
                have s1 := HRY.out.2.2.1
                have s2 := HRY.out.2.2.2.1
                have s3 := HRY.out.2.2.2.2.1
                have z0 := HRY.out.2.2.2.2.2 0
                have z1 := HRY.out.2.2.2.2.2 1
                have z2 := HRY.out.2.2.2.2.2 2
                have z3 := HRY.out.2.2.2.2.2 3
                go_simp
                clear s0 s1 s2 s3 z0 z1 z2 z3
                obtain ⟨W21, hWn⟩ : ∃ xw9, set4 W20 ry (.int .i64 y.1) (.float .f64 y.2.1) (.int .i32 y.2.2.1) (sy) = xw9 := ⟨_, rfl⟩
                have hWn2 := hWn
                unfold set4 at hWn2
                rw [hWn2]
                clear hWn2
                replace HRY := Lib.hid (show Blk4 W21 ry (.int .i64 y.1) (.float .f64 y.2.1) (.int .i32 y.2.2.1) (sy) by rw [← hWn]; exact HRY.out.put4 _ _ _ _)
                replace HRX := Lib.hid (show Blk4 W21 rx _ _ _ _ by rw [← hWn]; exact HRX.out.far4 HNE.out _ _ _ _)
                replace HW0 := Lib.hid (show Below W14.heap.size W14 W21 by rw [← hWn]; exact below_set4 HW0.out HRYG.out _ _ _ _)
                replace HA := Lib.hid (HAS.out.below HW0.out)
                replace HA2 := Lib.hid (HAS2.out.below HW0.out)
                replace HCX := Lib.hid (show C4 W21 bx ox (.int .i64 x.1) (.float .f64 x.2.1) (.int .i32 x.2.2.1) (sx) by rw [← hWn]; exact HCX.out.far NHCXry.out _ _ _ _)
                replace HCY := Lib.hid (show C4 W21 by_ oy (.int .i64 y.1) (.float .f64 y.2.1) (.int .i32 y.2.2.1) (sy) by rw [← hWn]; exact HCY.out.far NHCYry.out _ _ _ _)
                clear hWn
                refine hK.out _ _ ?_ (fun hHeld => ?_)
                · exact ⟨HA.out.2.1, HA.out.2.2.1, HA.out.2.2.2.1, HA2.out.2.1, HA2.out.2.2.1, HA2.out.2.2.2.1, HCX.out.1, HCX.out.2.1, HCX.out.2.2.1, HCX.out.2.2.2, HCY.out.1, HCY.out.2.1, HCY.out.2.2.1, HCY.out.2.2.2⟩
                clear hK K
                refine wpAnyH_done (by kernel_rfl) ?_ _
                clear hHeld
                refine ⟨rfl, .agg #[.slice txo (tidyP 40 p).s.length txc, .slice (some ⟨bx, ox0, none⟩) n txd, .int .i64 (tidyP 40 p).f], .slice (some ⟨bx, ox0, none⟩) n txd, .pointer (some ⟨bx, ox, none⟩), .agg #[.slice tyo (tidyP 40 q).s.length tyc, .slice (some ⟨by_, oy0, none⟩) m tyd, .int .i64 (tidyP 40 q).f], .slice (some ⟨by_, oy0, none⟩) m tyd, .pointer (some ⟨by_, oy, none⟩), sx, sy, rx, ry, ?_, HRX.out, HRY.out, HW0.out⟩
                first | rfl | kernel_rfl
              exact AllReadyH.nil
            exact AllReadyH.nil
          exact AllReadyH.nil
        refine AllReadyH.cons (o := _) rfl (fun K hK => ?_) ?_
        · clear hHeld
          go_simp
          obtain ⟨W18, hWn⟩ : ∃ xw9, W17.alloc (.cells #[.int .i64 0, .float .f64 0, .int .i32 0, .slice none 0 0] 32) = xw9 := ⟨_, rfl⟩
          have hB : Below W17.heap.size W17 W18 := by rw [← hWn]; exact below_new _ _
          have hNB : Blk4 W18 W17.heap.size (.int .i64 0) (.float .f64 0) (.int .i32 0) (.slice none 0 0) := by rw [← hWn]; exact Blk4.new _ _ _ _ _ _
          have hge : W14.heap.size ≤ W17.heap.size := HW0.out.size
          rw [hWn]
          clear hWn
          obtain ⟨ry, hnm⟩ : ∃ z, W17.heap.size = z := ⟨_, rfl⟩
          have NHCXry := Lib.hid (show bx ≠ ry by have := HCX.out.lt; omega)
          have HNE := Lib.hid (show rx ≠ ry by have := HRX.out.1; omega)
          rw [hnm] at hNB hge ⊢
          replace HA := Lib.hid (HA.out.below hB)
          replace HA2 := Lib.hid (HA2.out.below hB)
          replace HW0 := Lib.hid (HW0.out.trans (hB.mono HW0.out.size))
          replace HIW := Lib.hid (HIW.out.grow hB)
          replace HIW2 := Lib.hid (HIW2.out.grow hB)
          replace HCX := Lib.hid (HCX.out.below hB)
          replace HRX := Lib.hid (HRX.out.below hB)
          have HRY := Lib.hid hNB
          have HRYG := Lib.hid hge
          clear hNB hB hnm hge
          refine hK.out _ _ ?_ (fun hHeld => ?_)
          · exact ⟨HA.out.2.1, HA.out.2.2.1, HA.out.2.2.2.1, HA2.out.2.1, HA2.out.2.2.1, HA2.out.2.2.2.1, HCX.out.1, HCX.out.2.1, HCX.out.2.2.1, HCX.out.2.2.2⟩
          clear hK K
          refine wpAnyH_ready (rs := [7]) (by kernel_rfl) (by simp) ?_
          refine AllReadyH.cons (o := _) rfl (fun K hK => ?_) ?_
          · clear hHeld
            go_simp
            have hrx := HRX.out.1
            have grx := HRXG.out
            have hry := HRY.out.1
            have gry := HRYG.out
            refine (ptidy_calls 40 _ q _ _ HCQ.out HIW2.out).mono ?_
            rintro e W19 ⟨ut, rfl, hut, hB⟩
            replace HA := Lib.hid (HA.out.below hB)
            replace HA2 := Lib.hid (HA2.out.below hB)
            replace HW0 := Lib.hid (HW0.out.trans (hB.mono HW0.out.size))
            replace HIW := Lib.hid (HIW.out.grow hB)
            replace HIW2 := Lib.hid (HIW2.out.grow hB)
            replace HCX := Lib.hid (HCX.out.below hB)
            replace HRX := Lib.hid (HRX.out.below hB)
            replace HRY := Lib.hid (HRY.out.below hB)
            obtain ⟨tyo, tyc, tyi, tyd, rfl, _, hti⟩ := hut.opened
            rw [HLT2.out, HM.out] at hti ⊢
            obtain ⟨by_, oy0, q1, q2, he9, hok, d0, d1, d2, d3, _⟩ := hti.at HY.out
            subst he9
            obtain ⟨oy, hof⟩ : ∃ z, oy0 + k * 4 = z := ⟨_, rfl⟩
            have oyE := hof
            rw [hof] at d0 d1 d2 d3
            obtain ⟨sy, hsv9⟩ : ∃ z, Value.slice q1 y.2.2.2.length q2 = z := ⟨_, rfl⟩
            rw [hsv9] at d3
            have hstsy : (∀ (w : World) (a : Addr) (m : Mode), (store a sy m).run Tryd.prog w = stored Tryd.prog w a sy m) := by subst hsv9; exact fun w a m => run_store Tryd.prog w a _ m rfl
            have HCY := Lib.hid (show C4 W19 by_ oy (.int .i64 y.1) (.float .f64 y.2.1) (.int .i32 y.2.2.1) (sy) from ⟨d0, d1, d2, d3⟩)
            clear hut hti d0 d1 d2 d3 hsv9 hof
            have NHCYrx := Lib.hid (show by_ ≠ rx by rcases hok with ⟨⟨_, h1⟩, _⟩ | h1 <;> omega)
            clear hrx grx
            have NHCYry := Lib.hid (show by_ ≠ ry by rcases hok with ⟨⟨_, h1⟩, _⟩ | h1 <;> omega)
            clear hry gry
            clear hok
            clear hB
            refine hK.out _ _ ?_ (fun hHeld => ?_)
            · exact ⟨HA.out.2.1, HA.out.2.2.1, HA.out.2.2.2.1, HA2.out.2.1, HA2.out.2.2.1, HA2.out.2.2.2.1, HCX.out.1, HCX.out.2.1, HCX.out.2.2.1, HCX.out.2.2.2⟩
            clear hK K
            refine anyH_str (S' := fun w' => w'.cell? ⟨w.heap.size, 0, none⟩ = some (.slice so p.s.length sc) ∧ w'.cell? ⟨w.heap.size, 1, none⟩ = some (.slice io n ic) ∧ w'.cell? ⟨w.heap.size, 2, none⟩ = some (.int .i64 f) ∧ w'.cell? ⟨w.heap.size + 1, 0, none⟩ = some (.slice qo q.s.length qc) ∧ w'.cell? ⟨w.heap.size + 1, 1, none⟩ = some (.slice jo m jc) ∧ w'.cell? ⟨w.heap.size + 1, 2, none⟩ = some (.int .i64 g) ∧ w'.cell? ⟨bx, ox, none⟩ = some (.int .i64 x.1) ∧ w'.cell? ⟨bx, ox + 1, none⟩ = some (.float .f64 x.2.1) ∧ w'.cell? ⟨bx, ox + 2, none⟩ = some (.int .i32 x.2.2.1) ∧ w'.cell? ⟨bx, ox + 3, none⟩ = some (sx) ∧ w'.cell? ⟨by_, oy, none⟩ = some (.int .i64 y.1) ∧ w'.cell? ⟨by_, oy + 1, none⟩ = some (.float .f64 y.2.1) ∧ w'.cell? ⟨by_, oy + 2, none⟩ = some (.int .i32 y.2.2.1) ∧ w'.cell? ⟨by_, oy + 3, none⟩ = some (sy)) (fun _ h => ⟨h.1, h.2.1, h.2.2.1, h.2.2.2.1, h.2.2.2.2.1, h.2.2.2.2.2.1, h.2.2.2.2.2.2.1, h.2.2.2.2.2.2.2.1, h.2.2.2.2.2.2.2.2.1, h.2.2.2.2.2.2.2.2.2.1⟩) _ _ _ _ ?_
            replace hHeld := (show (fun w' => w'.cell? ⟨w.heap.size, 0, none⟩ = some (.slice so p.s.length sc) ∧ w'.cell? ⟨w.heap.size, 1, none⟩ = some (.slice io n ic) ∧ w'.cell? ⟨w.heap.size, 2, none⟩ = some (.int .i64 f) ∧ w'.cell? ⟨w.heap.size + 1, 0, none⟩ = some (.slice qo q.s.length qc) ∧ w'.cell? ⟨w.heap.size + 1, 1, none⟩ = some (.slice jo m jc) ∧ w'.cell? ⟨w.heap.size + 1, 2, none⟩ = some (.int .i64 g) ∧ w'.cell? ⟨bx, ox, none⟩ = some (.int .i64 x.1) ∧ w'.cell? ⟨bx, ox + 1, none⟩ = some (.float .f64 x.2.1) ∧ w'.cell? ⟨bx, ox + 2, none⟩ = some (.int .i32 x.2.2.1) ∧ w'.cell? ⟨bx, ox + 3, none⟩ = some (sx) ∧ w'.cell? ⟨by_, oy, none⟩ = some (.int .i64 y.1) ∧ w'.cell? ⟨by_, oy + 1, none⟩ = some (.float .f64 y.2.1) ∧ w'.cell? ⟨by_, oy + 2, none⟩ = some (.int .i32 y.2.2.1) ∧ w'.cell? ⟨by_, oy + 3, none⟩ = some (sy)) W19 from ⟨HA.out.2.1, HA.out.2.2.1, HA.out.2.2.2.1, HA2.out.2.1, HA2.out.2.2.1, HA2.out.2.2.2.1, HCX.out.1, HCX.out.2.1, HCX.out.2.2.1, HCX.out.2.2.2, HCY.out.1, HCY.out.2.1, HCY.out.2.2.1, HCY.out.2.2.2⟩)
            refine wpAnyH_take (i := 8) (v := ?_) rfl (by kernel_rfl) (by kernel_rfl) (by kernel_rfl) (fun _ _ _ h => absurd h.1 (by simp)) (Or.inl ⟨by rfl, ?_⟩) (by assumption) ?_
            rotate_left
            · (intro w hSw; (try dsimp only at hSw); go_simp; try with_reducible rfl)
            simp only [Act.put, List.getElem_toArray, List.getElem_cons_succ, List.getElem_cons_zero, List.setIfInBounds_toArray, List.set_cons_zero, List.set_cons_succ]
            refine wpAnyH_take (i := 10) (v := ?_) rfl (by kernel_rfl) (by kernel_rfl) (by kernel_rfl) (fun _ _ _ h => absurd h.1 (by simp)) (Or.inl ⟨by rfl, ?_⟩) (by assumption) ?_
            rotate_left
            · (intro w hSw; (try dsimp only at hSw); go_simp; try with_reducible rfl)
            simp only [Act.put, List.getElem_toArray, List.getElem_cons_succ, List.getElem_cons_zero, List.setIfInBounds_toArray, List.set_cons_zero, List.set_cons_succ]
            refine wpAnyH_take (i := 11) (v := ?_) rfl (by kernel_rfl) (by kernel_rfl) (by kernel_rfl) (fun _ _ _ h => absurd h.1 (by simp)) (Or.inl ⟨by rfl, ?_⟩) (by assumption) ?_
            rotate_left
            · (intro w hSw; (try dsimp only at hSw); go_simp; try with_reducible rfl)
            simp only [Act.put, List.getElem_toArray, List.getElem_cons_succ, List.getElem_cons_zero, List.setIfInBounds_toArray, List.set_cons_zero, List.set_cons_succ]
            refine wpAnyH_ready (rs := [14]) (by kernel_rfl) (by simp) ?_
            refine AllReadyH.cons (o := _) rfl (fun K hK => ?_) ?_
            · clear hHeld
              have s0 := HRX.out.2.1
              have s1 := HRX.out.2.2.1
              have s2 := HRX.out.2.2.2.1
              have s3 := HRX.out.2.2.2.2.1
              have z0 := HRX.out.2.2.2.2.2 0
              have z1 := HRX.out.2.2.2.2.2 1
              have z2 := HRX.out.2.2.2.2.2 2
              have z3 := HRX.out.2.2.2.2.2 3
              go_simp
              clear s0 s1 s2 s3 z0 z1 z2 z3
              obtain ⟨W20, hWn⟩ : ∃ xw9, set4 W19 rx (.int .i64 x.1) (.float .f64 x.2.1) (.int .i32 x.2.2.1) (sx) = xw9 := ⟨_, rfl⟩
              have hWn2 := hWn
              unfold set4 at hWn2
              rw [hWn2]
              clear hWn2
              replace HRX := Lib.hid (show Blk4 W20 rx (.int .i64 x.1) (.float .f64 x.2.1) (.int .i32 x.2.2.1) (sx) by rw [← hWn]; exact HRX.out.put4 _ _ _ _)
              replace HRY := Lib.hid (show Blk4 W20 ry _ _ _ _ by rw [← hWn]; exact HRY.out.far4 (Ne.symm HNE.out) _ _ _ _)
              replace HW0 := Lib.hid (show Below W14.heap.size W14 W20 by rw [← hWn]; exact below_set4 HW0.out HRXG.out _ _ _ _)
              replace HA := Lib.hid (HAS.out.below HW0.out)
              replace HA2 := Lib.hid (HAS2.out.below HW0.out)
              replace HCX := Lib.hid (show C4 W20 bx ox (.int .i64 x.1) (.float .f64 x.2.1) (.int .i32 x.2.2.1) (sx) by rw [← hWn]; exact HCX.out.far NHCXrx.out _ _ _ _)
              replace HCY := Lib.hid (show C4 W20 by_ oy (.int .i64 y.1) (.float .f64 y.2.1) (.int .i32 y.2.2.1) (sy) by rw [← hWn]; exact HCY.out.far NHCYrx.out _ _ _ _)
              clear hWn
              refine hK.out _ _ ?_ (fun hHeld => ?_)
              · exact ⟨HA.out.2.1, HA.out.2.2.1, HA.out.2.2.2.1, HA2.out.2.1, HA2.out.2.2.1, HA2.out.2.2.2.1, HCX.out.1, HCX.out.2.1, HCX.out.2.2.1, HCX.out.2.2.2, HCY.out.1, HCY.out.2.1, HCY.out.2.2.1, HCY.out.2.2.2⟩
              clear hK K
              refine wpAnyH_ready (rs := [15]) (by kernel_rfl) (by simp) ?_
              refine AllReadyH.cons (o := _) rfl (fun K hK => ?_) ?_
              · clear hHeld
                have s0 := HRY.out.2.1
                have s1 := HRY.out.2.2.1
                have s2 := HRY.out.2.2.2.1
                have s3 := HRY.out.2.2.2.2.1
                have z0 := HRY.out.2.2.2.2.2 0
                have z1 := HRY.out.2.2.2.2.2 1
                have z2 := HRY.out.2.2.2.2.2 2
                have z3 := HRY.out.2.2.2.2.2 3
                go_simp
                clear s0 s1 s2 s3 z0 z1 z2 z3
                obtain ⟨W21, hWn⟩ : ∃ xw9, set4 W20 ry (.int .i64 y.1) (.float .f64 y.2.1) (.int .i32 y.2.2.1) (sy) = xw9 := ⟨_, rfl⟩
                have hWn2 := hWn
                unfold set4 at hWn2
                rw [hWn2]
                clear hWn2
                replace HRY := Lib.hid (show Blk4 W21 ry (.int .i64 y.1) (.float .f64 y.2.1) (.int .i32 y.2.2.1) (sy) by rw [← hWn]; exact HRY.out.put4 _ _ _ _)
                replace HRX := Lib.hid (show Blk4 W21 rx _ _ _ _ by rw [← hWn]; exact HRX.out.far4 HNE.out _ _ _ _)
                replace HW0 := Lib.hid (show Below W14.heap.size W14 W21 by rw [← hWn]; exact below_set4 HW0.out HRYG.out _ _ _ _)
                replace HA := Lib.hid (HAS.out.below HW0.out)
                replace HA2 := Lib.hid (HAS2.out.below HW0.out)
                replace HCX := Lib.hid (show C4 W21 bx ox (.int .i64 x.1) (.float .f64 x.2.1) (.int .i32 x.2.2.1) (sx) by rw [← hWn]; exact HCX.out.far NHCXry.out _ _ _ _)
                replace HCY := Lib.hid (show C4 W21 by_ oy (.int .i64 y.1) (.float .f64 y.2.1) (.int .i32 y.2.2.1) (sy) by rw [← hWn]; exact HCY.out.far NHCYry.out _ _ _ _)
                clear hWn
                refine hK.out _ _ ?_ (fun hHeld => ?_)
                · exact ⟨HA.out.2.1, HA.out.2.2.1, HA.out.2.2.2.1, HA2.out.2.1, HA2.out.2.2.1, HA2.out.2.2.2.1, HCX.out.1, HCX.out.2.1, HCX.out.2.2.1, HCX.out.2.2.2, HCY.out.1, HCY.out.2.1, HCY.out.2.2.1, HCY.out.2.2.2⟩
                clear hK K
                refine wpAnyH_done (by kernel_rfl) ?_ _
                clear hHeld
                refine ⟨rfl, .agg #[.slice txo (tidyP 40 p).s.length txc, .slice (some ⟨bx, ox0, none⟩) n txd, .int .i64 (tidyP 40 p).f], .slice (some ⟨bx, ox0, none⟩) n txd, .pointer (some ⟨bx, ox, none⟩), .agg #[.slice tyo (tidyP 40 q).s.length tyc, .slice (some ⟨by_, oy0, none⟩) m tyd, .int .i64 (tidyP 40 q).f], .slice (some ⟨by_, oy0, none⟩) m tyd, .pointer (some ⟨by_, oy, none⟩), sx, sy, rx, ry, ?_, HRX.out, HRY.out, HW0.out⟩
                first | rfl | kernel_rfl
              exact AllReadyH.nil
            exact AllReadyH.nil
          exact AllReadyH.nil
        exact AllReadyH.nil
      refine AllReadyH.cons (o := _) rfl (fun K hK => ?_) ?_
      · clear hHeld
        go_simp
        obtain ⟨W17, hWn⟩ : ∃ xw9, W16.alloc (.cells #[.int .i64 0, .float .f64 0, .int .i32 0, .slice none 0 0] 32) = xw9 := ⟨_, rfl⟩
        have hB : Below W16.heap.size W16 W17 := by rw [← hWn]; exact below_new _ _
        have hNB : Blk4 W17 W16.heap.size (.int .i64 0) (.float .f64 0) (.int .i32 0) (.slice none 0 0) := by rw [← hWn]; exact Blk4.new _ _ _ _ _ _
        have hge : W14.heap.size ≤ W16.heap.size := HW0.out.size
        rw [hWn]
        clear hWn
        obtain ⟨ry, hnm⟩ : ∃ z, W16.heap.size = z := ⟨_, rfl⟩
        have NHCXry := Lib.hid (show bx ≠ ry by have := HCX.out.lt; omega)
        rw [hnm] at hNB hge ⊢
        replace HA := Lib.hid (HA.out.below hB)
        replace HA2 := Lib.hid (HA2.out.below hB)
        replace HW0 := Lib.hid (HW0.out.trans (hB.mono HW0.out.size))
        replace HIW := Lib.hid (HIW.out.grow hB)
        replace HIW2 := Lib.hid (HIW2.out.grow hB)
        replace HCX := Lib.hid (HCX.out.below hB)
        have HRY := Lib.hid hNB
        have HRYG := Lib.hid hge
        clear hNB hB hnm hge
        refine hK.out _ _ ?_ (fun hHeld => ?_)
        · exact ⟨HA.out.2.1, HA.out.2.2.1, HA.out.2.2.2.1, HA2.out.2.1, HA2.out.2.2.1, HA2.out.2.2.2.1, HCX.out.1, HCX.out.2.1, HCX.out.2.2.1, HCX.out.2.2.2⟩
        clear hK K
        refine wpAnyH_ready (rs := [7, 12]) (by kernel_rfl) (by simp) ?_
        refine AllReadyH.cons (o := _) rfl (fun K hK => ?_) ?_
        · clear hHeld
          go_simp
          have hry := HRY.out.1
          have gry := HRYG.out
          refine (ptidy_calls 40 _ q _ _ HCQ.out HIW2.out).mono ?_
          rintro e W18 ⟨ut, rfl, hut, hB⟩
          replace HA := Lib.hid (HA.out.below hB)
          replace HA2 := Lib.hid (HA2.out.below hB)
          replace HW0 := Lib.hid (HW0.out.trans (hB.mono HW0.out.size))
          replace HIW := Lib.hid (HIW.out.grow hB)
          replace HIW2 := Lib.hid (HIW2.out.grow hB)
          replace HCX := Lib.hid (HCX.out.below hB)
          replace HRY := Lib.hid (HRY.out.below hB)
          obtain ⟨tyo, tyc, tyi, tyd, rfl, _, hti⟩ := hut.opened
          rw [HLT2.out, HM.out] at hti ⊢
          obtain ⟨by_, oy0, q1, q2, he9, hok, d0, d1, d2, d3, _⟩ := hti.at HY.out
          subst he9
          obtain ⟨oy, hof⟩ : ∃ z, oy0 + k * 4 = z := ⟨_, rfl⟩
          have oyE := hof
          rw [hof] at d0 d1 d2 d3
          obtain ⟨sy, hsv9⟩ : ∃ z, Value.slice q1 y.2.2.2.length q2 = z := ⟨_, rfl⟩
          rw [hsv9] at d3
          have hstsy : (∀ (w : World) (a : Addr) (m : Mode), (store a sy m).run Tryd.prog w = stored Tryd.prog w a sy m) := by subst hsv9; exact fun w a m => run_store Tryd.prog w a _ m rfl
          have HCY := Lib.hid (show C4 W18 by_ oy (.int .i64 y.1) (.float .f64 y.2.1) (.int .i32 y.2.2.1) (sy) from ⟨d0, d1, d2, d3⟩)
          clear hut hti d0 d1 d2 d3 hsv9 hof
          have NHCYry := Lib.hid (show by_ ≠ ry by rcases hok with ⟨⟨_, h1⟩, _⟩ | h1 <;> omega)
          clear hry gry
          clear hok
          clear hB
          refine hK.out _ _ ?_ (fun hHeld => ?_)
          · exact ⟨HA.out.2.1, HA.out.2.2.1, HA.out.2.2.2.1, HA2.out.2.1, HA2.out.2.2.1, HA2.out.2.2.2.1, HCX.out.1, HCX.out.2.1, HCX.out.2.2.1, HCX.out.2.2.2⟩
          clear hK K
          refine anyH_str (S' := fun w' => w'.cell? ⟨w.heap.size, 0, none⟩ = some (.slice so p.s.length sc) ∧ w'.cell? ⟨w.heap.size, 1, none⟩ = some (.slice io n ic) ∧ w'.cell? ⟨w.heap.size, 2, none⟩ = some (.int .i64 f) ∧ w'.cell? ⟨w.heap.size + 1, 0, none⟩ = some (.slice qo q.s.length qc) ∧ w'.cell? ⟨w.heap.size + 1, 1, none⟩ = some (.slice jo m jc) ∧ w'.cell? ⟨w.heap.size + 1, 2, none⟩ = some (.int .i64 g) ∧ w'.cell? ⟨bx, ox, none⟩ = some (.int .i64 x.1) ∧ w'.cell? ⟨bx, ox + 1, none⟩ = some (.float .f64 x.2.1) ∧ w'.cell? ⟨bx, ox + 2, none⟩ = some (.int .i32 x.2.2.1) ∧ w'.cell? ⟨bx, ox + 3, none⟩ = some (sx) ∧ w'.cell? ⟨by_, oy, none⟩ = some (.int .i64 y.1) ∧ w'.cell? ⟨by_, oy + 1, none⟩ = some (.float .f64 y.2.1) ∧ w'.cell? ⟨by_, oy + 2, none⟩ = some (.int .i32 y.2.2.1) ∧ w'.cell? ⟨by_, oy + 3, none⟩ = some (sy)) (fun _ h => ⟨h.1, h.2.1, h.2.2.1, h.2.2.2.1, h.2.2.2.2.1, h.2.2.2.2.2.1, h.2.2.2.2.2.2.1, h.2.2.2.2.2.2.2.1, h.2.2.2.2.2.2.2.2.1, h.2.2.2.2.2.2.2.2.2.1⟩) _ _ _ _ ?_
          replace hHeld := (show (fun w' => w'.cell? ⟨w.heap.size, 0, none⟩ = some (.slice so p.s.length sc) ∧ w'.cell? ⟨w.heap.size, 1, none⟩ = some (.slice io n ic) ∧ w'.cell? ⟨w.heap.size, 2, none⟩ = some (.int .i64 f) ∧ w'.cell? ⟨w.heap.size + 1, 0, none⟩ = some (.slice qo q.s.length qc) ∧ w'.cell? ⟨w.heap.size + 1, 1, none⟩ = some (.slice jo m jc) ∧ w'.cell? ⟨w.heap.size + 1, 2, none⟩ = some (.int .i64 g) ∧ w'.cell? ⟨bx, ox, none⟩ = some (.int .i64 x.1) ∧ w'.cell? ⟨bx, ox + 1, none⟩ = some (.float .f64 x.2.1) ∧ w'.cell? ⟨bx, ox + 2, none⟩ = some (.int .i32 x.2.2.1) ∧ w'.cell? ⟨bx, ox + 3, none⟩ = some (sx) ∧ w'.cell? ⟨by_, oy, none⟩ = some (.int .i64 y.1) ∧ w'.cell? ⟨by_, oy + 1, none⟩ = some (.float .f64 y.2.1) ∧ w'.cell? ⟨by_, oy + 2, none⟩ = some (.int .i32 y.2.2.1) ∧ w'.cell? ⟨by_, oy + 3, none⟩ = some (sy)) W18 from ⟨HA.out.2.1, HA.out.2.2.1, HA.out.2.2.2.1, HA2.out.2.1, HA2.out.2.2.1, HA2.out.2.2.2.1, HCX.out.1, HCX.out.2.1, HCX.out.2.2.1, HCX.out.2.2.2, HCY.out.1, HCY.out.2.1, HCY.out.2.2.1, HCY.out.2.2.2⟩)
          refine wpAnyH_take (i := 8) (v := ?_) rfl (by kernel_rfl) (by kernel_rfl) (by kernel_rfl) (fun _ _ _ h => absurd h.1 (by simp)) (Or.inl ⟨by rfl, ?_⟩) (by assumption) ?_
          rotate_left
          · (intro w hSw; (try dsimp only at hSw); go_simp; try with_reducible rfl)
          simp only [Act.put, List.getElem_toArray, List.getElem_cons_succ, List.getElem_cons_zero, List.setIfInBounds_toArray, List.set_cons_zero, List.set_cons_succ]
          refine wpAnyH_take (i := 10) (v := ?_) rfl (by kernel_rfl) (by kernel_rfl) (by kernel_rfl) (fun _ _ _ h => absurd h.1 (by simp)) (Or.inl ⟨by rfl, ?_⟩) (by assumption) ?_
          rotate_left
          · (intro w hSw; (try dsimp only at hSw); go_simp; try with_reducible rfl)
          simp only [Act.put, List.getElem_toArray, List.getElem_cons_succ, List.getElem_cons_zero, List.setIfInBounds_toArray, List.set_cons_zero, List.set_cons_succ]
          refine wpAnyH_take (i := 11) (v := ?_) rfl (by kernel_rfl) (by kernel_rfl) (by kernel_rfl) (fun _ _ _ h => absurd h.1 (by simp)) (Or.inl ⟨by rfl, ?_⟩) (by assumption) ?_
          rotate_left
          · (intro w hSw; (try dsimp only at hSw); go_simp; try with_reducible rfl)
          simp only [Act.put, List.getElem_toArray, List.getElem_cons_succ, List.getElem_cons_zero, List.setIfInBounds_toArray, List.set_cons_zero, List.set_cons_succ]
          refine wpAnyH_ready (rs := [12]) (by kernel_rfl) (by simp) ?_
          refine AllReadyH.cons (o := _) rfl (fun K hK => ?_) ?_
          · clear hHeld
            go_simp
            obtain ⟨W19, hWn⟩ : ∃ xw9, W18.alloc (.cells #[.int .i64 0, .float .f64 0, .int .i32 0, .slice none 0 0] 32) = xw9 := ⟨_, rfl⟩
            have hB : Below W18.heap.size W18 W19 := by rw [← hWn]; exact below_new _ _
            have hNB : Blk4 W19 W18.heap.size (.int .i64 0) (.float .f64 0) (.int .i32 0) (.slice none 0 0) := by rw [← hWn]; exact Blk4.new _ _ _ _ _ _
            have hge : W14.heap.size ≤ W18.heap.size := HW0.out.size
            rw [hWn]
            clear hWn
            obtain ⟨rx, hnm⟩ : ∃ z, W18.heap.size = z := ⟨_, rfl⟩
            have NHCXrx := Lib.hid (show bx ≠ rx by have := HCX.out.lt; omega)
            have NHCYrx := Lib.hid (show by_ ≠ rx by have := HCY.out.lt; omega)
            have HNE := Lib.hid (show ry ≠ rx by have := HRY.out.1; omega)
            rw [hnm] at hNB hge ⊢
            replace HA := Lib.hid (HA.out.below hB)
            replace HA2 := Lib.hid (HA2.out.below hB)
            replace HW0 := Lib.hid (HW0.out.trans (hB.mono HW0.out.size))
            replace HIW := Lib.hid (HIW.out.grow hB)
            replace HIW2 := Lib.hid (HIW2.out.grow hB)
            replace HCX := Lib.hid (HCX.out.below hB)
            replace HRY := Lib.hid (HRY.out.below hB)
            replace HCY := Lib.hid (HCY.out.below hB)
            have HRX := Lib.hid hNB
            have HRXG := Lib.hid hge
            clear hNB hB hnm hge
            refine hK.out _ _ ?_ (fun hHeld => ?_)
            · exact ⟨HA.out.2.1, HA.out.2.2.1, HA.out.2.2.2.1, HA2.out.2.1, HA2.out.2.2.1, HA2.out.2.2.2.1, HCX.out.1, HCX.out.2.1, HCX.out.2.2.1, HCX.out.2.2.2, HCY.out.1, HCY.out.2.1, HCY.out.2.2.1, HCY.out.2.2.2⟩
            clear hK K
            refine wpAnyH_ready (rs := [14]) (by kernel_rfl) (by simp) ?_
            refine AllReadyH.cons (o := _) rfl (fun K hK => ?_) ?_
            · clear hHeld
              have s0 := HRX.out.2.1
              have s1 := HRX.out.2.2.1
              have s2 := HRX.out.2.2.2.1
              have s3 := HRX.out.2.2.2.2.1
              have z0 := HRX.out.2.2.2.2.2 0
              have z1 := HRX.out.2.2.2.2.2 1
              have z2 := HRX.out.2.2.2.2.2 2
              have z3 := HRX.out.2.2.2.2.2 3
              go_simp
              clear s0 s1 s2 s3 z0 z1 z2 z3
              obtain ⟨W20, hWn⟩ : ∃ xw9, set4 W19 rx (.int .i64 x.1) (.float .f64 x.2.1) (.int .i32 x.2.2.1) (sx) = xw9 := ⟨_, rfl⟩
              have hWn2 := hWn
              unfold set4 at hWn2
              rw [hWn2]
              clear hWn2
              replace HRX := Lib.hid (show Blk4 W20 rx (.int .i64 x.1) (.float .f64 x.2.1) (.int .i32 x.2.2.1) (sx) by rw [← hWn]; exact HRX.out.put4 _ _ _ _)
              replace HRY := Lib.hid (show Blk4 W20 ry _ _ _ _ by rw [← hWn]; exact HRY.out.far4 HNE.out _ _ _ _)
              replace HW0 := Lib.hid (show Below W14.heap.size W14 W20 by rw [← hWn]; exact below_set4 HW0.out HRXG.out _ _ _ _)
              replace HA := Lib.hid (HAS.out.below HW0.out)
              replace HA2 := Lib.hid (HAS2.out.below HW0.out)
              replace HCX := Lib.hid (show C4 W20 bx ox (.int .i64 x.1) (.float .f64 x.2.1) (.int .i32 x.2.2.1) (sx) by rw [← hWn]; exact HCX.out.far NHCXrx.out _ _ _ _)
              replace HCY := Lib.hid (show C4 W20 by_ oy (.int .i64 y.1) (.float .f64 y.2.1) (.int .i32 y.2.2.1) (sy) by rw [← hWn]; exact HCY.out.far NHCYrx.out _ _ _ _)
              clear hWn
              refine hK.out _ _ ?_ (fun hHeld => ?_)
              · exact ⟨HA.out.2.1, HA.out.2.2.1, HA.out.2.2.2.1, HA2.out.2.1, HA2.out.2.2.1, HA2.out.2.2.2.1, HCX.out.1, HCX.out.2.1, HCX.out.2.2.1, HCX.out.2.2.2, HCY.out.1, HCY.out.2.1, HCY.out.2.2.1, HCY.out.2.2.2⟩
              clear hK K
              refine wpAnyH_ready (rs := [15]) (by kernel_rfl) (by simp) ?_
              refine AllReadyH.cons (o := _) rfl (fun K hK => ?_) ?_
              · clear hHeld
                have s0 := HRY.out.2.1
                have s1 := HRY.out.2.2.1
                have s2 := HRY.out.2.2.2.1
                have s3 := HRY.out.2.2.2.2.1
                have z0 := HRY.out.2.2.2.2.2 0
                have z1 := HRY.out.2.2.2.2.2 1
                have z2 := HRY.out.2.2.2.2.2 2
                have z3 := HRY.out.2.2.2.2.2 3
                go_simp
                clear s0 s1 s2 s3 z0 z1 z2 z3
                obtain ⟨W21, hWn⟩ : ∃ xw9, set4 W20 ry (.int .i64 y.1) (.float .f64 y.2.1) (.int .i32 y.2.2.1) (sy) = xw9 := ⟨_, rfl⟩
                have hWn2 := hWn
                unfold set4 at hWn2
                rw [hWn2]
                clear hWn2
                replace HRY := Lib.hid (show Blk4 W21 ry (.int .i64 y.1) (.float .f64 y.2.1) (.int .i32 y.2.2.1) (sy) by rw [← hWn]; exact HRY.out.put4 _ _ _ _)
                replace HRX := Lib.hid (show Blk4 W21 rx _ _ _ _ by rw [← hWn]; exact HRX.out.far4 (Ne.symm HNE.out) _ _ _ _)
                replace HW0 := Lib.hid (show Below W14.heap.size W14 W21 by rw [← hWn]; exact below_set4 HW0.out HRYG.out _ _ _ _)
                replace HA := Lib.hid (HAS.out.below HW0.out)
                replace HA2 := Lib.hid (HAS2.out.below HW0.out)
                replace HCX := Lib.hid (show C4 W21 bx ox (.int .i64 x.1) (.float .f64 x.2.1) (.int .i32 x.2.2.1) (sx) by rw [← hWn]; exact HCX.out.far NHCXry.out _ _ _ _)
                replace HCY := Lib.hid (show C4 W21 by_ oy (.int .i64 y.1) (.float .f64 y.2.1) (.int .i32 y.2.2.1) (sy) by rw [← hWn]; exact HCY.out.far NHCYry.out _ _ _ _)
                clear hWn
                refine hK.out _ _ ?_ (fun hHeld => ?_)
                · exact ⟨HA.out.2.1, HA.out.2.2.1, HA.out.2.2.2.1, HA2.out.2.1, HA2.out.2.2.1, HA2.out.2.2.2.1, HCX.out.1, HCX.out.2.1, HCX.out.2.2.1, HCX.out.2.2.2, HCY.out.1, HCY.out.2.1, HCY.out.2.2.1, HCY.out.2.2.2⟩
                clear hK K
                refine wpAnyH_done (by kernel_rfl) ?_ _
                clear hHeld
                refine ⟨rfl, .agg #[.slice txo (tidyP 40 p).s.length txc, .slice (some ⟨bx, ox0, none⟩) n txd, .int .i64 (tidyP 40 p).f], .slice (some ⟨bx, ox0, none⟩) n txd, .pointer (some ⟨bx, ox, none⟩), .agg #[.slice tyo (tidyP 40 q).s.length tyc, .slice (some ⟨by_, oy0, none⟩) m tyd, .int .i64 (tidyP 40 q).f], .slice (some ⟨by_, oy0, none⟩) m tyd, .pointer (some ⟨by_, oy, none⟩), sx, sy, rx, ry, ?_, HRX.out, HRY.out, HW0.out⟩
                first | rfl | kernel_rfl
              exact AllReadyH.nil
            exact AllReadyH.nil
          exact AllReadyH.nil
        refine AllReadyH.cons (o := _) rfl (fun K hK => ?_) ?_
        · clear hHeld
          go_simp
          obtain ⟨W18, hWn⟩ : ∃ xw9, W17.alloc (.cells #[.int .i64 0, .float .f64 0, .int .i32 0, .slice none 0 0] 32) = xw9 := ⟨_, rfl⟩
          have hB : Below W17.heap.size W17 W18 := by rw [← hWn]; exact below_new _ _
          have hNB : Blk4 W18 W17.heap.size (.int .i64 0) (.float .f64 0) (.int .i32 0) (.slice none 0 0) := by rw [← hWn]; exact Blk4.new _ _ _ _ _ _
          have hge : W14.heap.size ≤ W17.heap.size := HW0.out.size
          rw [hWn]
          clear hWn
          obtain ⟨rx, hnm⟩ : ∃ z, W17.heap.size = z := ⟨_, rfl⟩
          have NHCXrx := Lib.hid (show bx ≠ rx by have := HCX.out.lt; omega)
          have HNE := Lib.hid (show ry ≠ rx by have := HRY.out.1; omega)
          rw [hnm] at hNB hge ⊢
          replace HA := Lib.hid (HA.out.below hB)
          replace HA2 := Lib.hid (HA2.out.below hB)
          replace HW0 := Lib.hid (HW0.out.trans (hB.mono HW0.out.size))
          replace HIW := Lib.hid (HIW.out.grow hB)
          replace HIW2 := Lib.hid (HIW2.out.grow hB)
          replace HCX := Lib.hid (HCX.out.below hB)
          replace HRY := Lib.hid (HRY.out.below hB)
          have HRX := Lib.hid hNB
          have HRXG := Lib.hid hge
          clear hNB hB hnm hge
          refine hK.out _ _ ?_ (fun hHeld => ?_)
          · exact ⟨HA.out.2.1, HA.out.2.2.1, HA.out.2.2.2.1, HA2.out.2.1, HA2.out.2.2.1, HA2.out.2.2.2.1, HCX.out.1, HCX.out.2.1, HCX.out.2.2.1, HCX.out.2.2.2⟩
          clear hK K
          refine wpAnyH_ready (rs := [7]) (by kernel_rfl) (by simp) ?_
          refine AllReadyH.cons (o := _) rfl (fun K hK => ?_) ?_
          · clear hHeld
            go_simp
            have hrx := HRX.out.1
            have grx := HRXG.out
            have hry := HRY.out.1
            have gry := HRYG.out
            refine (ptidy_calls 40 _ q _ _ HCQ.out HIW2.out).mono ?_
            rintro e W19 ⟨ut, rfl, hut, hB⟩
            replace HA := Lib.hid (HA.out.below hB)
            replace HA2 := Lib.hid (HA2.out.below hB)
            replace HW0 := Lib.hid (HW0.out.trans (hB.mono HW0.out.size))
            replace HIW := Lib.hid (HIW.out.grow hB)
            replace HIW2 := Lib.hid (HIW2.out.grow hB)
            replace HCX := Lib.hid (HCX.out.below hB)
            replace HRY := Lib.hid (HRY.out.below hB)
            replace HRX := Lib.hid (HRX.out.below hB)
            obtain ⟨tyo, tyc, tyi, tyd, rfl, _, hti⟩ := hut.opened
            rw [HLT2.out, HM.out] at hti ⊢
            obtain ⟨by_, oy0, q1, q2, he9, hok, d0, d1, d2, d3, _⟩ := hti.at HY.out
            subst he9
            obtain ⟨oy, hof⟩ : ∃ z, oy0 + k * 4 = z := ⟨_, rfl⟩
            have oyE := hof
            rw [hof] at d0 d1 d2 d3
            obtain ⟨sy, hsv9⟩ : ∃ z, Value.slice q1 y.2.2.2.length q2 = z := ⟨_, rfl⟩
            rw [hsv9] at d3
            have hstsy : (∀ (w : World) (a : Addr) (m : Mode), (store a sy m).run Tryd.prog w = stored Tryd.prog w a sy m) := by subst hsv9; exact fun w a m => run_store Tryd.prog w a _ m rfl
            have HCY := Lib.hid (show C4 W19 by_ oy (.int .i64 y.1) (.float .f64 y.2.1) (.int .i32 y.2.2.1) (sy) from ⟨d0, d1, d2, d3⟩)
            clear hut hti d0 d1 d2 d3 hsv9 hof
            have NHCYrx := Lib.hid (show by_ ≠ rx by rcases hok with ⟨⟨_, h1⟩, _⟩ | h1 <;> omega)
            clear hrx grx
            have NHCYry := Lib.hid (show by_ ≠ ry by rcases hok with ⟨⟨_, h1⟩, _⟩ | h1 <;> omega)
            clear hry gry
            clear hok
            clear hB
            refine hK.out _ _ ?_ (fun hHeld => ?_)
            · exact ⟨HA.out.2.1, HA.out.2.2.1, HA.out.2.2.2.1, HA2.out.2.1, HA2.out.2.2.1, HA2.out.2.2.2.1, HCX.out.1, HCX.out.2.1, HCX.out.2.2.1, HCX.out.2.2.2⟩
            clear hK K
            refine anyH_str (S' := fun w' => w'.cell? ⟨w.heap.size, 0, none⟩ = some (.slice so p.s.length sc) ∧ w'.cell? ⟨w.heap.size, 1, none⟩ = some (.slice io n ic) ∧ w'.cell? ⟨w.heap.size, 2, none⟩ = some (.int .i64 f) ∧ w'.cell? ⟨w.heap.size + 1, 0, none⟩ = some (.slice qo q.s.length qc) ∧ w'.cell? ⟨w.heap.size + 1, 1, none⟩ = some (.slice jo m jc) ∧ w'.cell? ⟨w.heap.size + 1, 2, none⟩ = some (.int .i64 g) ∧ w'.cell? ⟨bx, ox, none⟩ = some (.int .i64 x.1) ∧ w'.cell? ⟨bx, ox + 1, none⟩ = some (.float .f64 x.2.1) ∧ w'.cell? ⟨bx, ox + 2, none⟩ = some (.int .i32 x.2.2.1) ∧ w'.cell? ⟨bx, ox + 3, none⟩ = some (sx) ∧ w'.cell? ⟨by_, oy, none⟩ = some (.int .i64 y.1) ∧ w'.cell? ⟨by_, oy + 1, none⟩ = some (.float .f64 y.2.1) ∧ w'.cell? ⟨by_, oy + 2, none⟩ = some (.int .i32 y.2.2.1) ∧ w'.cell? ⟨by_, oy + 3, none⟩ = some (sy)) (fun _ h => ⟨h.1, h.2.1, h.2.2.1, h.2.2.2.1, h.2.2.2.2.1, h.2.2.2.2.2.1, h.2.2.2.2.2.2.1, h.2.2.2.2.2.2.2.1, h.2.2.2.2.2.2.2.2.1, h.2.2.2.2.2.2.2.2.2.1⟩) _ _ _ _ ?_
            replace hHeld := (show (fun w' => w'.cell? ⟨w.heap.size, 0, none⟩ = some (.slice so p.s.length sc) ∧ w'.cell? ⟨w.heap.size, 1, none⟩ = some (.slice io n ic) ∧ w'.cell? ⟨w.heap.size, 2, none⟩ = some (.int .i64 f) ∧ w'.cell? ⟨w.heap.size + 1, 0, none⟩ = some (.slice qo q.s.length qc) ∧ w'.cell? ⟨w.heap.size + 1, 1, none⟩ = some (.slice jo m jc) ∧ w'.cell? ⟨w.heap.size + 1, 2, none⟩ = some (.int .i64 g) ∧ w'.cell? ⟨bx, ox, none⟩ = some (.int .i64 x.1) ∧ w'.cell? ⟨bx, ox + 1, none⟩ = some (.float .f64 x.2.1) ∧ w'.cell? ⟨bx, ox + 2, none⟩ = some (.int .i32 x.2.2.1) ∧ w'.cell? ⟨bx, ox + 3, none⟩ = some (sx) ∧ w'.cell? ⟨by_, oy, none⟩ = some (.int .i64 y.1) ∧ w'.cell? ⟨by_, oy + 1, none⟩ = some (.float .f64 y.2.1) ∧ w'.cell? ⟨by_, oy + 2, none⟩ = some (.int .i32 y.2.2.1) ∧ w'.cell? ⟨by_, oy + 3, none⟩ = some (sy)) W19 from ⟨HA.out.2.1, HA.out.2.2.1, HA.out.2.2.2.1, HA2.out.2.1, HA2.out.2.2.1, HA2.out.2.2.2.1, HCX.out.1, HCX.out.2.1, HCX.out.2.2.1, HCX.out.2.2.2, HCY.out.1, HCY.out.2.1, HCY.out.2.2.1, HCY.out.2.2.2⟩)
            refine wpAnyH_take (i := 8) (v := ?_) rfl (by kernel_rfl) (by kernel_rfl) (by kernel_rfl) (fun _ _ _ h => absurd h.1 (by simp)) (Or.inl ⟨by rfl, ?_⟩) (by assumption) ?_
            rotate_left
            · (intro w hSw; (try dsimp only at hSw); go_simp; try with_reducible rfl)
            simp only [Act.put, List.getElem_toArray, List.getElem_cons_succ, List.getElem_cons_zero, List.setIfInBounds_toArray, List.set_cons_zero, List.set_cons_succ]
            refine wpAnyH_take (i := 10) (v := ?_) rfl (by kernel_rfl) (by kernel_rfl) (by kernel_rfl) (fun _ _ _ h => absurd h.1 (by simp)) (Or.inl ⟨by rfl, ?_⟩) (by assumption) ?_
            rotate_left
            · (intro w hSw; (try dsimp only at hSw); go_simp; try with_reducible rfl)
            simp only [Act.put, List.getElem_toArray, List.getElem_cons_succ, List.getElem_cons_zero, List.setIfInBounds_toArray, List.set_cons_zero, List.set_cons_succ]
            refine wpAnyH_take (i := 11) (v := ?_) rfl (by kernel_rfl) (by kernel_rfl) (by kernel_rfl) (fun _ _ _ h => absurd h.1 (by simp)) (Or.inl ⟨by rfl, ?_⟩) (by assumption) ?_
            rotate_left
            · (intro w hSw; (try dsimp only at hSw); go_simp; try with_reducible rfl)
            simp only [Act.put, List.getElem_toArray, List.getElem_cons_succ, List.getElem_cons_zero, List.setIfInBounds_toArray, List.set_cons_zero, List.set_cons_succ]
            refine wpAnyH_ready (rs := [14]) (by kernel_rfl) (by simp) ?_
            refine AllReadyH.cons (o := _) rfl (fun K hK => ?_) ?_
            · clear hHeld
              have s0 := HRX.out.2.1
              have s1 := HRX.out.2.2.1
              have s2 := HRX.out.2.2.2.1
              have s3 := HRX.out.2.2.2.2.1
              have z0 := HRX.out.2.2.2.2.2 0
              have z1 := HRX.out.2.2.2.2.2 1
              have z2 := HRX.out.2.2.2.2.2 2
              have z3 := HRX.out.2.2.2.2.2 3
              go_simp
              clear s0 s1 s2 s3 z0 z1 z2 z3
              obtain ⟨W20, hWn⟩ : ∃ xw9, set4 W19 rx (.int .i64 x.1) (.float .f64 x.2.1) (.int .i32 x.2.2.1) (sx) = xw9 := ⟨_, rfl⟩
              have hWn2 := hWn
              unfold set4 at hWn2
              rw [hWn2]
              clear hWn2
              replace HRX := Lib.hid (show Blk4 W20 rx (.int .i64 x.1) (.float .f64 x.2.1) (.int .i32 x.2.2.1) (sx) by rw [← hWn]; exact HRX.out.put4 _ _ _ _)
              replace HRY := Lib.hid (show Blk4 W20 ry _ _ _ _ by rw [← hWn]; exact HRY.out.far4 HNE.out _ _ _ _)
              replace HW0 := Lib.hid (show Below W14.heap.size W14 W20 by rw [← hWn]; exact below_set4 HW0.out HRXG.out _ _ _ _)
              replace HA := Lib.hid (HAS.out.below HW0.out)
              replace HA2 := Lib.hid (HAS2.out.below HW0.out)
              replace HCX := Lib.hid (show C4 W20 bx ox (.int .i64 x.1) (.float .f64 x.2.1) (.int .i32 x.2.2.1) (sx) by rw [← hWn]; exact HCX.out.far NHCXrx.out _ _ _ _)
              replace HCY := Lib.hid (show C4 W20 by_ oy (.int .i64 y.1) (.float .f64 y.2.1) (.int .i32 y.2.2.1) (sy) by rw [← hWn]; exact HCY.out.far NHCYrx.out _ _ _ _)
              clear hWn
              refine hK.out _ _ ?_ (fun hHeld => ?_)
              · exact ⟨HA.out.2.1, HA.out.2.2.1, HA.out.2.2.2.1, HA2.out.2.1, HA2.out.2.2.1, HA2.out.2.2.2.1, HCX.out.1, HCX.out.2.1, HCX.out.2.2.1, HCX.out.2.2.2, HCY.out.1, HCY.out.2.1, HCY.out.2.2.1, HCY.out.2.2.2⟩
              clear hK K
              refine wpAnyH_ready (rs := [15]) (by kernel_rfl) (by simp) ?_
              refine AllReadyH.cons (o := _) rfl (fun K hK => ?_) ?_
              · clear hHeld
                have s0 := HRY.out.2.1
                have s1 := HRY.out.2.2.1
                have s2 := HRY.out.2.2.2.1
                have s3 := HRY.out.2.2.2.2.1
                have z0 := HRY.out.2.2.2.2.2 0
                have z1 := HRY.out.2.2.2.2.2 1
                have z2 := HRY.out.2.2.2.2.2 2
                have z3 := HRY.out.2.2.2.2.2 3
                go_simp
                clear s0 s1 s2 s3 z0 z1 z2 z3
                obtain ⟨W21, hWn⟩ : ∃ xw9, set4 W20 ry (.int .i64 y.1) (.float .f64 y.2.1) (.int .i32 y.2.2.1) (sy) = xw9 := ⟨_, rfl⟩
                have hWn2 := hWn
                unfold set4 at hWn2
                rw [hWn2]
                clear hWn2
                replace HRY := Lib.hid (show Blk4 W21 ry (.int .i64 y.1) (.float .f64 y.2.1) (.int .i32 y.2.2.1) (sy) by rw [← hWn]; exact HRY.out.put4 _ _ _ _)
                replace HRX := Lib.hid (show Blk4 W21 rx _ _ _ _ by rw [← hWn]; exact HRX.out.far4 (Ne.symm HNE.out) _ _ _ _)
                replace HW0 := Lib.hid (show Below W14.heap.size W14 W21 by rw [← hWn]; exact below_set4 HW0.out HRYG.out _ _ _ _)
                replace HA := Lib.hid (HAS.out.below HW0.out)
                replace HA2 := Lib.hid (HAS2.out.below HW0.out)
                replace HCX := Lib.hid (show C4 W21 bx ox (.int .i64 x.1) (.float .f64 x.2.1) (.int .i32 x.2.2.1) (sx) by rw [← hWn]; exact HCX.out.far NHCXry.out _ _ _ _)
                replace HCY := Lib.hid (show C4 W21 by_ oy (.int .i64 y.1) (.float .f64 y.2.1) (.int .i32 y.2.2.1) (sy) by rw [← hWn]; exact HCY.out.far NHCYry.out _ _ _ _)
                clear hWn
                refine hK.out _ _ ?_ (fun hHeld => ?_)
                · exact ⟨HA.out.2.1, HA.out.2.2.1, HA.out.2.2.2.1, HA2.out.2.1, HA2.out.2.2.1, HA2.out.2.2.2.1, HCX.out.1, HCX.out.2.1, HCX.out.2.2.1, HCX.out.2.2.2, HCY.out.1, HCY.out.2.1, HCY.out.2.2.1, HCY.out.2.2.2⟩
                clear hK K
                refine wpAnyH_done (by kernel_rfl) ?_ _
                clear hHeld
                refine ⟨rfl, .agg #[.slice txo (tidyP 40 p).s.length txc, .slice (some ⟨bx, ox0, none⟩) n txd, .int .i64 (tidyP 40 p).f], .slice (some ⟨bx, ox0, none⟩) n txd, .pointer (some ⟨bx, ox, none⟩), .agg #[.slice tyo (tidyP 40 q).s.length tyc, .slice (some ⟨by_, oy0, none⟩) m tyd, .int .i64 (tidyP 40 q).f], .slice (some ⟨by_, oy0, none⟩) m tyd, .pointer (some ⟨by_, oy, none⟩), sx, sy, rx, ry, ?_, HRX.out, HRY.out, HW0.out⟩
                first | rfl | kernel_rfl
              exact AllReadyH.nil
            exact AllReadyH.nil
          exact AllReadyH.nil
        exact AllReadyH.nil
      exact AllReadyH.nil
    refine AllReadyH.cons (o := _) rfl (fun K hK => ?_) ?_
    · clear hHeld
      go_simp
      obtain ⟨W16, hWn⟩ : ∃ xw9, W15.alloc (.cells #[.int .i64 0, .float .f64 0, .int .i32 0, .slice none 0 0] 32) = xw9 := ⟨_, rfl⟩
      have hB : Below W15.heap.size W15 W16 := by rw [← hWn]; exact below_new _ _
      have hNB : Blk4 W16 W15.heap.size (.int .i64 0) (.float .f64 0) (.int .i32 0) (.slice none 0 0) := by rw [← hWn]; exact Blk4.new _ _ _ _ _ _
      have hge : W14.heap.size ≤ W15.heap.size := HW0.out.size
      rw [hWn]
      clear hWn
      obtain ⟨rx, hnm⟩ : ∃ z, W15.heap.size = z := ⟨_, rfl⟩
      
      rw [hnm] at hNB hge ⊢
      replace HA := Lib.hid (HA.out.below hB)
      replace HA2 := Lib.hid (HA2.out.below hB)
      replace HW0 := Lib.hid (HW0.out.trans (hB.mono HW0.out.size))
      replace HIW := Lib.hid (HIW.out.grow hB)
      replace HIW2 := Lib.hid (HIW2.out.grow hB)
      have HRX := Lib.hid hNB
      have HRXG := Lib.hid hge
      clear hNB hB hnm hge
      refine hK.out _ _ ?_ (fun hHeld => ?_)
      · exact ⟨HA.out.2.1, HA.out.2.2.1, HA.out.2.2.2.1, HA2.out.2.1, HA2.out.2.2.1, HA2.out.2.2.2.1⟩
      clear hK K
      refine wpAnyH_ready (rs := [1, 13]) (by kernel_rfl) (by simp) ?_
      refine AllReadyH.cons (o := _) rfl (fun K hK => ?_) ?_
      · clear hHeld
        go_simp
        have hrx := HRX.out.1
        have grx := HRXG.out
        refine (ptidy_calls 40 _ p _ _ HCP.out HIW.out).mono ?_
        rintro e W17 ⟨ut, rfl, hut, hB⟩
        replace HA := Lib.hid (HA.out.below hB)
        replace HA2 := Lib.hid (HA2.out.below hB)
        replace HW0 := Lib.hid (HW0.out.trans (hB.mono HW0.out.size))
        replace HIW := Lib.hid (HIW.out.grow hB)
        replace HIW2 := Lib.hid (HIW2.out.grow hB)
        replace HRX := Lib.hid (HRX.out.below hB)
        obtain ⟨txo, txc, txi, txd, rfl, _, hti⟩ := hut.opened
        rw [HLT1.out, HN.out] at hti ⊢
        obtain ⟨bx, ox0, q1, q2, he9, hok, d0, d1, d2, d3, _⟩ := hti.at HX.out
        subst he9
        obtain ⟨ox, hof⟩ : ∃ z, ox0 + i * 4 = z := ⟨_, rfl⟩
        have oxE := hof
        rw [hof] at d0 d1 d2 d3
        obtain ⟨sx, hsv9⟩ : ∃ z, Value.slice q1 x.2.2.2.length q2 = z := ⟨_, rfl⟩
        rw [hsv9] at d3
        have hstsx : (∀ (w : World) (a : Addr) (m : Mode), (store a sx m).run Tryd.prog w = stored Tryd.prog w a sx m) := by subst hsv9; exact fun w a m => run_store Tryd.prog w a _ m rfl
        have HCX := Lib.hid (show C4 W17 bx ox (.int .i64 x.1) (.float .f64 x.2.1) (.int .i32 x.2.2.1) (sx) from ⟨d0, d1, d2, d3⟩)
        clear hut hti d0 d1 d2 d3 hsv9 hof
        have NHCXrx := Lib.hid (show bx ≠ rx by rcases hok with ⟨⟨_, h1⟩, _⟩ | h1 <;> omega)
        clear hrx grx
        clear hok
        clear hB
        refine hK.out _ _ ?_ (fun hHeld => ?_)
        · exact ⟨HA.out.2.1, HA.out.2.2.1, HA.out.2.2.2.1, HA2.out.2.1, HA2.out.2.2.1, HA2.out.2.2.2.1⟩
        clear hK K
        refine anyH_str (S' := fun w' => w'.cell? ⟨w.heap.size, 0, none⟩ = some (.slice so p.s.length sc) ∧ w'.cell? ⟨w.heap.size, 1, none⟩ = some (.slice io n ic) ∧ w'.cell? ⟨w.heap.size, 2, none⟩ = some (.int .i64 f) ∧ w'.cell? ⟨w.heap.size + 1, 0, none⟩ = some (.slice qo q.s.length qc) ∧ w'.cell? ⟨w.heap.size + 1, 1, none⟩ = some (.slice jo m jc) ∧ w'.cell? ⟨w.heap.size + 1, 2, none⟩ = some (.int .i64 g) ∧ w'.cell? ⟨bx, ox, none⟩ = some (.int .i64 x.1) ∧ w'.cell? ⟨bx, ox + 1, none⟩ = some (.float .f64 x.2.1) ∧ w'.cell? ⟨bx, ox + 2, none⟩ = some (.int .i32 x.2.2.1) ∧ w'.cell? ⟨bx, ox + 3, none⟩ = some (sx)) (fun _ h => ⟨h.1, h.2.1, h.2.2.1, h.2.2.2.1, h.2.2.2.2.1, h.2.2.2.2.2.1⟩) _ _ _ _ ?_
        replace hHeld := (show (fun w' => w'.cell? ⟨w.heap.size, 0, none⟩ = some (.slice so p.s.length sc) ∧ w'.cell? ⟨w.heap.size, 1, none⟩ = some (.slice io n ic) ∧ w'.cell? ⟨w.heap.size, 2, none⟩ = some (.int .i64 f) ∧ w'.cell? ⟨w.heap.size + 1, 0, none⟩ = some (.slice qo q.s.length qc) ∧ w'.cell? ⟨w.heap.size + 1, 1, none⟩ = some (.slice jo m jc) ∧ w'.cell? ⟨w.heap.size + 1, 2, none⟩ = some (.int .i64 g) ∧ w'.cell? ⟨bx, ox, none⟩ = some (.int .i64 x.1) ∧ w'.cell? ⟨bx, ox + 1, none⟩ = some (.float .f64 x.2.1) ∧ w'.cell? ⟨bx, ox + 2, none⟩ = some (.int .i32 x.2.2.1) ∧ w'.cell? ⟨bx, ox + 3, none⟩ = some (sx)) W17 from ⟨HA.out.2.1, HA.out.2.2.1, HA.out.2.2.2.1, HA2.out.2.1, HA2.out.2.2.1, HA2.out.2.2.2.1, HCX.out.1, HCX.out.2.1, HCX.out.2.2.1, HCX.out.2.2.2⟩)
        refine wpAnyH_take (i := 2) (v := ?_) rfl (by kernel_rfl) (by kernel_rfl) (by kernel_rfl) (fun _ _ _ h => absurd h.1 (by simp)) (Or.inl ⟨by rfl, ?_⟩) (by assumption) ?_
        rotate_left
        · (intro w hSw; (try dsimp only at hSw); go_simp; try with_reducible rfl)
        simp only [Act.put, List.getElem_toArray, List.getElem_cons_succ, List.getElem_cons_zero, List.setIfInBounds_toArray, List.set_cons_zero, List.set_cons_succ]
        refine wpAnyH_take (i := 4) (v := ?_) rfl (by kernel_rfl) (by kernel_rfl) (by kernel_rfl) (fun _ _ _ h => absurd h.1 (by simp)) (Or.inl ⟨by rfl, ?_⟩) (by assumption) ?_
        rotate_left
        · (intro w hSw; (try dsimp only at hSw); go_simp; try with_reducible rfl)
        simp only [Act.put, List.getElem_toArray, List.getElem_cons_succ, List.getElem_cons_zero, List.setIfInBounds_toArray, List.set_cons_zero, List.set_cons_succ]
        refine wpAnyH_take (i := 5) (v := ?_) rfl (by kernel_rfl) (by kernel_rfl) (by kernel_rfl) (fun _ _ _ h => absurd h.1 (by simp)) (Or.inl ⟨by rfl, ?_⟩) (by assumption) ?_
        rotate_left
        · (intro w hSw; (try dsimp only at hSw); go_simp; try with_reducible rfl)
        simp only [Act.put, List.getElem_toArray, List.getElem_cons_succ, List.getElem_cons_zero, List.setIfInBounds_toArray, List.set_cons_zero, List.set_cons_succ]
        refine wpAnyH_ready (rs := [7, 13]) (by kernel_rfl) (by simp) ?_
        refine AllReadyH.cons (o := _) rfl (fun K hK => ?_) ?_
        · clear hHeld
          go_simp
          have hrx := HRX.out.1
          have grx := HRXG.out
          refine (ptidy_calls 40 _ q _ _ HCQ.out HIW2.out).mono ?_
          rintro e W18 ⟨ut, rfl, hut, hB⟩
          replace HA := Lib.hid (HA.out.below hB)
          replace HA2 := Lib.hid (HA2.out.below hB)
          replace HW0 := Lib.hid (HW0.out.trans (hB.mono HW0.out.size))
          replace HIW := Lib.hid (HIW.out.grow hB)
          replace HIW2 := Lib.hid (HIW2.out.grow hB)
          replace HRX := Lib.hid (HRX.out.below hB)
          replace HCX := Lib.hid (HCX.out.below hB)
          obtain ⟨tyo, tyc, tyi, tyd, rfl, _, hti⟩ := hut.opened
          rw [HLT2.out, HM.out] at hti ⊢
          obtain ⟨by_, oy0, q1, q2, he9, hok, d0, d1, d2, d3, _⟩ := hti.at HY.out
          subst he9
          obtain ⟨oy, hof⟩ : ∃ z, oy0 + k * 4 = z := ⟨_, rfl⟩
          have oyE := hof
          rw [hof] at d0 d1 d2 d3
          obtain ⟨sy, hsv9⟩ : ∃ z, Value.slice q1 y.2.2.2.length q2 = z := ⟨_, rfl⟩
          rw [hsv9] at d3
          have hstsy : (∀ (w : World) (a : Addr) (m : Mode), (store a sy m).run Tryd.prog w = stored Tryd.prog w a sy m) := by subst hsv9; exact fun w a m => run_store Tryd.prog w a _ m rfl
          have HCY := Lib.hid (show C4 W18 by_ oy (.int .i64 y.1) (.float .f64 y.2.1) (.int .i32 y.2.2.1) (sy) from ⟨d0, d1, d2, d3⟩)
          clear hut hti d0 d1 d2 d3 hsv9 hof
          have NHCYrx := Lib.hid (show by_ ≠ rx by rcases hok with ⟨⟨_, h1⟩, _⟩ | h1 <;> omega)
          clear hrx grx
          clear hok
          clear hB
          refine hK.out _ _ ?_ (fun hHeld => ?_)
          · exact ⟨HA.out.2.1, HA.out.2.2.1, HA.out.2.2.2.1, HA2.out.2.1, HA2.out.2.2.1, HA2.out.2.2.2.1, HCX.out.1, HCX.out.2.1, HCX.out.2.2.1, HCX.out.2.2.2⟩
          clear hK K
          refine anyH_str (S' := fun w' => w'.cell? ⟨w.heap.size, 0, none⟩ = some (.slice so p.s.length sc) ∧ w'.cell? ⟨w.heap.size, 1, none⟩ = some (.slice io n ic) ∧ w'.cell? ⟨w.heap.size, 2, none⟩ = some (.int .i64 f) ∧ w'.cell? ⟨w.heap.size + 1, 0, none⟩ = some (.slice qo q.s.length qc) ∧ w'.cell? ⟨w.heap.size + 1, 1, none⟩ = some (.slice jo m jc) ∧ w'.cell? ⟨w.heap.size + 1, 2, none⟩ = some (.int .i64 g) ∧ w'.cell? ⟨bx, ox, none⟩ = some (.int .i64 x.1) ∧ w'.cell? ⟨bx, ox + 1, none⟩ = some (.float .f64 x.2.1) ∧ w'.cell? ⟨bx, ox + 2, none⟩ = some (.int .i32 x.2.2.1) ∧ w'.cell? ⟨bx, ox + 3, none⟩ = some (sx) ∧ w'.cell? ⟨by_, oy, none⟩ = some (.int .i64 y.1) ∧ w'.cell? ⟨by_, oy + 1, none⟩ = some (.float .f64 y.2.1) ∧ w'.cell? ⟨by_, oy + 2, none⟩ = some (.int .i32 y.2.2.1) ∧ w'.cell? ⟨by_, oy + 3, none⟩ = some (sy)) (fun _ h => ⟨h.1, h.2.1, h.2.2.1, h.2.2.2.1, h.2.2.2.2.1, h.2.2.2.2.2.1, h.2.2.2.2.2.2.1, h.2.2.2.2.2.2.2.1, h.2.2.2.2.2.2.2.2.1, h.2.2.2.2.2.2.2.2.2.1⟩) _ _ _ _ ?_
          replace hHeld := (show (fun w' => w'.cell? ⟨w.heap.size, 0, none⟩ = some (.slice so p.s.length sc) ∧ w'.cell? ⟨w.heap.size, 1, none⟩ = some (.slice io n ic) ∧ w'.cell? ⟨w.heap.size, 2, none⟩ = some (.int .i64 f) ∧ w'.cell? ⟨w.heap.size + 1, 0, none⟩ = some (.slice qo q.s.length qc) ∧ w'.cell? ⟨w.heap.size + 1, 1, none⟩ = some (.slice jo m jc) ∧ w'.cell? ⟨w.heap.size + 1, 2, none⟩ = some (.int .i64 g) ∧ w'.cell? ⟨bx, ox, none⟩ = some (.int .i64 x.1) ∧ w'.cell? ⟨bx, ox + 1, none⟩ = some (.float .f64 x.2.1) ∧ w'.cell? ⟨bx, ox + 2, none⟩ = some (.int .i32 x.2.2.1) ∧ w'.cell? ⟨bx, ox + 3, none⟩ = some (sx) ∧ w'.cell? ⟨by_, oy, none⟩ = some (.int .i64 y.1) ∧ w'.cell? ⟨by_, oy + 1, none⟩ = some (.float .f64 y.2.1) ∧ w'.cell? ⟨by_, oy + 2, none⟩ = some (.int .i32 y.2.2.1) ∧ w'.cell? ⟨by_, oy + 3, none⟩ = some (sy)) W18 from ⟨HA.out.2.1, HA.out.2.2.1, HA.out.2.2.2.1, HA2.out.2.1, HA2.out.2.2.1, HA2.out.2.2.2.1, HCX.out.1, HCX.out.2.1, HCX.out.2.2.1, HCX.out.2.2.2, HCY.out.1, HCY.out.2.1, HCY.out.2.2.1, HCY.out.2.2.2⟩)
          refine wpAnyH_take (i := 8) (v := ?_) rfl (by kernel_rfl) (by kernel_rfl) (by kernel_rfl) (fun _ _ _ h => absurd h.1 (by simp)) (Or.inl ⟨by rfl, ?_⟩) (by assumption) ?_
          rotate_left
          · (intro w hSw; (try dsimp only at hSw); go_simp; try with_reducible rfl)
          simp only [Act.put, List.getElem_toArray, List.getElem_cons_succ, List.getElem_cons_zero, List.setIfInBounds_toArray, List.set_cons_zero, List.set_cons_succ]
          refine wpAnyH_take (i := 10) (v := ?_) rfl (by kernel_rfl) (by kernel_rfl) (by kernel_rfl) (fun _ _ _ h => absurd h.1 (by simp)) (Or.inl ⟨by rfl, ?_⟩) (by assumption) ?_
          rotate_left
          · (intro w hSw; (try dsimp only at hSw); go_simp; try with_reducible rfl)
          simp only [Act.put, List.getElem_toArray, List.getElem_cons_succ, List.getElem_cons_zero, List.setIfInBounds_toArray, List.set_cons_zero, List.set_cons_succ]
          refine wpAnyH_take (i := 11) (v := ?_) rfl (by kernel_rfl) (by kernel_rfl) (by kernel_rfl) (fun _ _ _ h => absurd h.1 (by simp)) (Or.inl ⟨by rfl, ?_⟩) (by assumption) ?_
          rotate_left
          · (intro w hSw; (try dsimp only at hSw); go_simp; try with_reducible rfl)
          simp only [Act.put, List.getElem_toArray, List.getElem_cons_succ, List.getElem_cons_zero, List.setIfInBounds_toArray, List.set_cons_zero, List.set_cons_succ]
          refine wpAnyH_ready (rs := [13]) (by kernel_rfl) (by simp) ?_
          refine AllReadyH.cons (o := _) rfl (fun K hK => ?_) ?_
          · clear hHeld
            go_simp
            obtain ⟨W19, hWn⟩ : ∃ xw9, W18.alloc (.cells #[.int .i64 0, .float .f64 0, .int .i32 0, .slice none 0 0] 32) = xw9 := ⟨_, rfl⟩
            have hB : Below W18.heap.size W18 W19 := by rw [← hWn]; exact below_new _ _
            have hNB : Blk4 W19 W18.heap.size (.int .i64 0) (.float .f64 0) (.int .i32 0) (.slice none 0 0) := by rw [← hWn]; exact Blk4.new _ _ _ _ _ _
            have hge : W14.heap.size ≤ W18.heap.size := HW0.out.size
            rw [hWn]
            clear hWn
            obtain ⟨ry, hnm⟩ : ∃ z, W18.heap.size = z := ⟨_, rfl⟩
            have NHCXry := Lib.hid (show bx ≠ ry by have := HCX.out.lt; omega)
            have NHCYry := Lib.hid (show by_ ≠ ry by have := HCY.out.lt; omega)
            have HNE := Lib.hid (show rx ≠ ry by have := HRX.out.1; omega)
            rw [hnm] at hNB hge ⊢
            replace HA := Lib.hid (HA.out.below hB)
            replace HA2 := Lib.hid (HA2.out.below hB)
            replace HW0 := Lib.hid (HW0.out.trans (hB.mono HW0.out.size))
            replace HIW := Lib.hid (HIW.out.grow hB)
            replace HIW2 := Lib.hid (HIW2.out.grow hB)
            replace HRX := Lib.hid (HRX.out.below hB)
            replace HCX := Lib.hid (HCX.out.below hB)
            replace HCY := Lib.hid (HCY.out.below hB)
            have HRY := Lib.hid hNB
            have HRYG := Lib.hid hge
            clear hNB hB hnm hge
            refine hK.out _ _ ?_ (fun hHeld => ?_)
            · exact ⟨HA.out.2.1, HA.out.2.2.1, HA.out.2.2.2.1, HA2.out.2.1, HA2.out.2.2.1, HA2.out.2.2.2.1, HCX.out.1, HCX.out.2.1, HCX.out.2.2.1, HCX.out.2.2.2, HCY.out.1, HCY.out.2.1, HCY.out.2.2.1, HCY.out.2.2.2⟩
            clear hK K
            refine wpAnyH_ready (rs := [14]) (by kernel_rfl) (by simp) ?_
            refine AllReadyH.cons (o := _) rfl (fun K hK => ?_) ?_
            · clear hHeld
              have s0 := HRX.out.2.1
              have s1 := HRX.out.2.2.1
              have s2 := HRX.out.2.2.2.1
              have s3 := HRX.out.2.2.2.2.1
              have z0 := HRX.out.2.2.2.2.2 0
              have z1 := HRX.out.2.2.2.2.2 1
              have z2 := HRX.out.2.2.2.2.2 2
              have z3 := HRX.out.2.2.2.2.2 3
              go_simp
              clear s0 s1 s2 s3 z0 z1 z2 z3
              obtain ⟨W20, hWn⟩ : ∃ xw9, set4 W19 rx (.int .i64 x.1) (.float .f64 x.2.1) (.int .i32 x.2.2.1) (sx) = xw9 := ⟨_, rfl⟩
              have hWn2 := hWn
              unfold set4 at hWn2
              rw [hWn2]
              clear hWn2
              replace HRX := Lib.hid (show Blk4 W20 rx (.int .i64 x.1) (.float .f64 x.2.1) (.int .i32 x.2.2.1) (sx) by rw [← hWn]; exact HRX.out.put4 _ _ _ _)
              replace HRY := Lib.hid (show Blk4 W20 ry _ _ _ _ by rw [← hWn]; exact HRY.out.far4 (Ne.symm HNE.out) _ _ _ _)
              replace HW0 := Lib.hid (show Below W14.heap.size W14 W20 by rw [← hWn]; exact below_set4 HW0.out HRXG.out _ _ _ _)
              replace HA := Lib.hid (HAS.out.below HW0.out)
              replace HA2 := Lib.hid (HAS2.out.below HW0.out)
              replace HCX := Lib.hid (show C4 W20 bx ox (.int .i64 x.1) (.float .f64 x.2.1) (.int .i32 x.2.2.1) (sx) by rw [← hWn]; exact HCX.out.far NHCXrx.out _ _ _ _)
              replace HCY := Lib.hid (show C4 W20 by_ oy (.int .i64 y.1) (.float .f64 y.2.1) (.int .i32 y.2.2.1) (sy) by rw [← hWn]; exact HCY.out.far NHCYrx.out _ _ _ _)
              clear hWn
              refine hK.out _ _ ?_ (fun hHeld => ?_)
              · exact ⟨HA.out.2.1, HA.out.2.2.1, HA.out.2.2.2.1, HA2.out.2.1, HA2.out.2.2.1, HA2.out.2.2.2.1, HCX.out.1, HCX.out.2.1, HCX.out.2.2.1, HCX.out.2.2.2, HCY.out.1, HCY.out.2.1, HCY.out.2.2.1, HCY.out.2.2.2⟩
              clear hK K
              refine wpAnyH_ready (rs := [15]) (by kernel_rfl) (by simp) ?_
              refine AllReadyH.cons (o := _) rfl (fun K hK => ?_) ?_
              · clear hHeld
                have s0 := HRY.out.2.1
                have s1 := HRY.out.2.2.1
                have s2 := HRY.out.2.2.2.1
                have s3 := HRY.out.2.2.2.2.1
                have z0 := HRY.out.2.2.2.2.2 0
                have z1 := HRY.out.2.2.2.2.2 1
                have z2 := HRY.out.2.2.2.2.2 2
                have z3 := HRY.out.2.2.2.2.2 3
                go_simp
                clear s0 s1 s2 s3 z0 z1 z2 z3
                obtain ⟨W21, hWn⟩ : ∃ xw9, set4 W20 ry (.int .i64 y.1) (.float .f64 y.2.1) (.int .i32 y.2.2.1) (sy) = xw9 := ⟨_, rfl⟩
                have hWn2 := hWn
                unfold set4 at hWn2
                rw [hWn2]
                clear hWn2
                replace HRY := Lib.hid (show Blk4 W21 ry (.int .i64 y.1) (.float .f64 y.2.1) (.int .i32 y.2.2.1) (sy) by rw [← hWn]; exact HRY.out.put4 _ _ _ _)
                replace HRX := Lib.hid (show Blk4 W21 rx _ _ _ _ by rw [← hWn]; exact HRX.out.far4 HNE.out _ _ _ _)
                replace HW0 := Lib.hid (show Below W14.heap.size W14 W21 by rw [← hWn]; exact below_set4 HW0.out HRYG.out _ _ _ _)
                replace HA := Lib.hid (HAS.out.below HW0.out)
                replace HA2 := Lib.hid (HAS2.out.below HW0.out)
                replace HCX := Lib.hid (show C4 W21 bx ox (.int .i64 x.1) (.float .f64 x.2.1) (.int .i32 x.2.2.1) (sx) by rw [← hWn]; exact HCX.out.far NHCXry.out _ _ _ _)
                replace HCY := Lib.hid (show C4 W21 by_ oy (.int .i64 y.1) (.float .f64 y.2.1) (.int .i32 y.2.2.1) (sy) by rw [← hWn]; exact HCY.out.far NHCYry.out _ _ _ _)
                clear hWn
                refine hK.out _ _ ?_ (fun hHeld => ?_)
                · exact ⟨HA.out.2.1, HA.out.2.2.1, HA.out.2.2.2.1, HA2.out.2.1, HA2.out.2.2.1, HA2.out.2.2.2.1, HCX.out.1, HCX.out.2.1, HCX.out.2.2.1, HCX.out.2.2.2, HCY.out.1, HCY.out.2.1, HCY.out.2.2.1, HCY.out.2.2.2⟩
                clear hK K
                refine wpAnyH_done (by kernel_rfl) ?_ _
                clear hHeld
                refine ⟨rfl, .agg #[.slice txo (tidyP 40 p).s.length txc, .slice (some ⟨bx, ox0, none⟩) n txd, .int .i64 (tidyP 40 p).f], .slice (some ⟨bx, ox0, none⟩) n txd, .pointer (some ⟨bx, ox, none⟩), .agg #[.slice tyo (tidyP 40 q).s.length tyc, .slice (some ⟨by_, oy0, none⟩) m tyd, .int .i64 (tidyP 40 q).f], .slice (some ⟨by_, oy0, none⟩) m tyd, .pointer (some ⟨by_, oy, none⟩), sx, sy, rx, ry, ?_, HRX.out, HRY.out, HW0.out⟩
                first | rfl | kernel_rfl
              exact AllReadyH.nil
            exact AllReadyH.nil
          exact AllReadyH.nil
        refine AllReadyH.cons (o := _) rfl (fun K hK => ?_) ?_
        · clear hHeld
          go_simp
          obtain ⟨W18, hWn⟩ : ∃ xw9, W17.alloc (.cells #[.int .i64 0, .float .f64 0, .int .i32 0, .slice none 0 0] 32) = xw9 := ⟨_, rfl⟩
          have hB : Below W17.heap.size W17 W18 := by rw [← hWn]; exact below_new _ _
          have hNB : Blk4 W18 W17.heap.size (.int .i64 0) (.float .f64 0) (.int .i32 0) (.slice none 0 0) := by rw [← hWn]; exact Blk4.new _ _ _ _ _ _
          have hge : W14.heap.size ≤ W17.heap.size := HW0.out.size
          rw [hWn]
          clear hWn
          obtain ⟨ry, hnm⟩ : ∃ z, W17.heap.size = z := ⟨_, rfl⟩
          have NHCXry := Lib.hid (show bx ≠ ry by have := HCX.out.lt; omega)
          have HNE := Lib.hid (show rx ≠ ry by have := HRX.out.1; omega)
          rw [hnm] at hNB hge ⊢
          replace HA := Lib.hid (HA.out.below hB)
          replace HA2 := Lib.hid (HA2.out.below hB)
          replace HW0 := Lib.hid (HW0.out.trans (hB.mono HW0.out.size))
          replace HIW := Lib.hid (HIW.out.grow hB)
          replace HIW2 := Lib.hid (HIW2.out.grow hB)
          replace HRX := Lib.hid (HRX.out.below hB)
          replace HCX := Lib.hid (HCX.out.below hB)
          have HRY := Lib.hid hNB
          have HRYG := Lib.hid hge
          clear hNB hB hnm hge
          refine hK.out _ _ ?_ (fun hHeld => ?_)
          · exact ⟨HA.out.2.1, HA.out.2.2.1, HA.out.2.2.2.1, HA2.out.2.1, HA2.out.2.2.1, HA2.out.2.2.2.1, HCX.out.1, HCX.out.2.1, HCX.out.2.2.1, HCX.out.2.2.2⟩
          clear hK K
          refine wpAnyH_ready (rs := [7]) (by kernel_rfl) (by simp) ?_
          refine AllReadyH.cons (o := _) rfl (fun K hK => ?_) ?_
          · clear hHeld
            go_simp
            have hrx := HRX.out.1
            have grx := HRXG.out
            have hry := HRY.out.1
            have gry := HRYG.out
            refine (ptidy_calls 40 _ q _ _ HCQ.out HIW2.out).mono ?_
            rintro e W19 ⟨ut, rfl, hut, hB⟩
            replace HA := Lib.hid (HA.out.below hB)
            replace HA2 := Lib.hid (HA2.out.below hB)
            replace HW0 := Lib.hid (HW0.out.trans (hB.mono HW0.out.size))
            replace HIW := Lib.hid (HIW.out.grow hB)
            replace HIW2 := Lib.hid (HIW2.out.grow hB)
            replace HRX := Lib.hid (HRX.out.below hB)
            replace HCX := Lib.hid (HCX.out.below hB)
            replace HRY := Lib.hid (HRY.out.below hB)
            obtain ⟨tyo, tyc, tyi, tyd, rfl, _, hti⟩ := hut.opened
            rw [HLT2.out, HM.out] at hti ⊢
            obtain ⟨by_, oy0, q1, q2, he9, hok, d0, d1, d2, d3, _⟩ := hti.at HY.out
            subst he9
            obtain ⟨oy, hof⟩ : ∃ z, oy0 + k * 4 = z := ⟨_, rfl⟩
            have oyE := hof
            rw [hof] at d0 d1 d2 d3
            obtain ⟨sy, hsv9⟩ : ∃ z, Value.slice q1 y.2.2.2.length q2 = z := ⟨_, rfl⟩
            rw [hsv9] at d3
            have hstsy : (∀ (w : World) (a : Addr) (m : Mode), (store a sy m).run Tryd.prog w = stored Tryd.prog w a sy m) := by subst hsv9; exact fun w a m => run_store Tryd.prog w a _ m rfl
            have HCY := Lib.hid (show C4 W19 by_ oy (.int .i64 y.1) (.float .f64 y.2.1) (.int .i32 y.2.2.1) (sy) from ⟨d0, d1, d2, d3⟩)
            clear hut hti d0 d1 d2 d3 hsv9 hof
            have NHCYrx := Lib.hid (show by_ ≠ rx by rcases hok with ⟨⟨_, h1⟩, _⟩ | h1 <;> omega)
            clear hrx grx
            have NHCYry := Lib.hid (show by_ ≠ ry by rcases hok with ⟨⟨_, h1⟩, _⟩ | h1 <;> omega)
            clear hry gry
            clear hok
            clear hB
            refine hK.out _ _ ?_ (fun hHeld => ?_)
            · exact ⟨HA.out.2.1, HA.out.2.2.1, HA.out.2.2.2.1, HA2.out.2.1, HA2.out.2.2.1, HA2.out.2.2.2.1, HCX.out.1, HCX.out.2.1, HCX.out.2.2.1, HCX.out.2.2.2⟩
            clear hK K
            refine anyH_str (S' := fun w' => w'.cell? ⟨w.heap.size, 0, none⟩ = some (.slice so p.s.length sc) ∧ w'.cell? ⟨w.heap.size, 1, none⟩ = some (.slice io n ic) ∧ w'.cell? ⟨w.heap.size, 2, none⟩ = some (.int .i64 f) ∧ w'.cell? ⟨w.heap.size + 1, 0, none⟩ = some (.slice qo q.s.length qc) ∧ w'.cell? ⟨w.heap.size + 1, 1, none⟩ = some (.slice jo m jc) ∧ w'.cell? ⟨w.heap.size + 1, 2, none⟩ = some (.int .i64 g) ∧ w'.cell? ⟨bx, ox, none⟩ = some (.int .i64 x.1) ∧ w'.cell? ⟨bx, ox + 1, none⟩ = some (.float .f64 x.2.1) ∧ w'.cell? ⟨bx, ox + 2, none⟩ = some (.int .i32 x.2.2.1) ∧ w'.cell? ⟨bx, ox + 3, none⟩ = some (sx) ∧ w'.cell? ⟨by_, oy, none⟩ = some (.int .i64 y.1) ∧ w'.cell? ⟨by_, oy + 1, none⟩ = some (.float .f64 y.2.1) ∧ w'.cell? ⟨by_, oy + 2, none⟩ = some (.int .i32 y.2.2.1) ∧ w'.cell? ⟨by_, oy + 3, none⟩ = some (sy)) (fun _ h => ⟨h.1, h.2.1, h.2.2.1, h.2.2.2.1, h.2.2.2.2.1, h.2.2.2.2.2.1, h.2.2.2.2.2.2.1, h.2.2.2.2.2.2.2.1, h.2.2.2.2.2.2.2.2.1, h.2.2.2.2.2.2.2.2.2.1⟩) _ _ _ _ ?_
            replace hHeld := (show (fun w' => w'.cell? ⟨w.heap.size, 0, none⟩ = some (.slice so p.s.length sc) ∧ w'.cell? ⟨w.heap.size, 1, none⟩ = some (.slice io n ic) ∧ w'.cell? ⟨w.heap.size, 2, none⟩ = some (.int .i64 f) ∧ w'.cell? ⟨w.heap.size + 1, 0, none⟩ = some (.slice qo q.s.length qc) ∧ w'.cell? ⟨w.heap.size + 1, 1, none⟩ = some (.slice jo m jc) ∧ w'.cell? ⟨w.heap.size + 1, 2, none⟩ = some (.int .i64 g) ∧ w'.cell? ⟨bx, ox, none⟩ = some (.int .i64 x.1) ∧ w'.cell? ⟨bx, ox + 1, none⟩ = some (.float .f64 x.2.1) ∧ w'.cell? ⟨bx, ox + 2, none⟩ = some (.int .i32 x.2.2.1) ∧ w'.cell? ⟨bx, ox + 3, none⟩ = some (sx) ∧ w'.cell? ⟨by_, oy, none⟩ = some (.int .i64 y.1) ∧ w'.cell? ⟨by_, oy + 1, none⟩ = some (.float .f64 y.2.1) ∧ w'.cell? ⟨by_, oy + 2, none⟩ = some (.int .i32 y.2.2.1) ∧ w'.cell? ⟨by_, oy + 3, none⟩ = some (sy)) W19 from ⟨HA.out.2.1, HA.out.2.2.1, HA.out.2.2.2.1, HA2.out.2.1, HA2.out.2.2.1, HA2.out.2.2.2.1, HCX.out.1, HCX.out.2.1, HCX.out.2.2.1, HCX.out.2.2.2, HCY.out.1, HCY.out.2.1, HCY.out.2.2.1, HCY.out.2.2.2⟩)
            refine wpAnyH_take (i := 8) (v := ?_) rfl (by kernel_rfl) (by kernel_rfl) (by kernel_rfl) (fun _ _ _ h => absurd h.1 (by simp)) (Or.inl ⟨by rfl, ?_⟩) (by assumption) ?_
            rotate_left
            · (intro w hSw; (try dsimp only at hSw); go_simp; try with_reducible rfl)
            simp only [Act.put, List.getElem_toArray, List.getElem_cons_succ, List.getElem_cons_zero, List.setIfInBounds_toArray, List.set_cons_zero, List.set_cons_succ]
            refine wpAnyH_take (i := 10) (v := ?_) rfl (by kernel_rfl) (by kernel_rfl) (by kernel_rfl) (fun _ _ _ h => absurd h.1 (by simp)) (Or.inl ⟨by rfl, ?_⟩) (by assumption) ?_
            rotate_left
            · (intro w hSw; (try dsimp only at hSw); go_simp; try with_reducible rfl)
            simp only [Act.put, List.getElem_toArray, List.getElem_cons_succ, List.getElem_cons_zero, List.setIfInBounds_toArray, List.set_cons_zero, List.set_cons_succ]
            refine wpAnyH_take (i := 11) (v := ?_) rfl (by kernel_rfl) (by kernel_rfl) (by kernel_rfl) (fun _ _ _ h => absurd h.1 (by simp)) (Or.inl ⟨by rfl, ?_⟩) (by assumption) ?_
            rotate_left
            · (intro w hSw; (try dsimp only at hSw); go_simp; try with_reducible rfl)
            simp only [Act.put, List.getElem_toArray, List.getElem_cons_succ, List.getElem_cons_zero, List.setIfInBounds_toArray, List.set_cons_zero, List.set_cons_succ]
            refine wpAnyH_ready (rs := [14]) (by kernel_rfl) (by simp) ?_
            refine AllReadyH.cons (o := _) rfl (fun K hK => ?_) ?_
            · clear hHeld
              have s0 := HRX.out.2.1
              have s1 := HRX.out.2.2.1
              have s2 := HRX.out.2.2.2.1
              have s3 := HRX.out.2.2.2.2.1
              have z0 := HRX.out.2.2.2.2.2 0
              have z1 := HRX.out.2.2.2.2.2 1
              have z2 := HRX.out.2.2.2.2.2 2
              have z3 := HRX.out.2.2.2.2.2 3
              go_simp
              clear s0 s1 s2 s3 z0 z1 z2 z3
              obtain ⟨W20, hWn⟩ : ∃ xw9, set4 W19 rx (.int .i64 x.1) (.float .f64 x.2.1) (.int .i32 x.2.2.1) (sx) = xw9 := ⟨_, rfl⟩
              have hWn2 := hWn
              unfold set4 at hWn2
              rw [hWn2]
              clear hWn2
              replace HRX := Lib.hid (show Blk4 W20 rx (.int .i64 x.1) (.float .f64 x.2.1) (.int .i32 x.2.2.1) (sx) by rw [← hWn]; exact HRX.out.put4 _ _ _ _)
              replace HRY := Lib.hid (show Blk4 W20 ry _ _ _ _ by rw [← hWn]; exact HRY.out.far4 (Ne.symm HNE.out) _ _ _ _)
              replace HW0 := Lib.hid (show Below W14.heap.size W14 W20 by rw [← hWn]; exact below_set4 HW0.out HRXG.out _ _ _ _)
              replace HA := Lib.hid (HAS.out.below HW0.out)
              replace HA2 := Lib.hid (HAS2.out.below HW0.out)
              replace HCX := Lib.hid (show C4 W20 bx ox (.int .i64 x.1) (.float .f64 x.2.1) (.int .i32 x.2.2.1) (sx) by rw [← hWn]; exact HCX.out.far NHCXrx.out _ _ _ _)
              replace HCY := Lib.hid (show C4 W20 by_ oy (.int .i64 y.1) (.float .f64 y.2.1) (.int .i32 y.2.2.1) (sy) by rw [← hWn]; exact HCY.out.far NHCYrx.out _ _ _ _)
              clear hWn
              refine hK.out _ _ ?_ (fun hHeld => ?_)
              · exact ⟨HA.out.2.1, HA.out.2.2.1, HA.out.2.2.2.1, HA2.out.2.1, HA2.out.2.2.1, HA2.out.2.2.2.1, HCX.out.1, HCX.out.2.1, HCX.out.2.2.1, HCX.out.2.2.2, HCY.out.1, HCY.out.2.1, HCY.out.2.2.1, HCY.out.2.2.2⟩
              clear hK K
              refine wpAnyH_ready (rs := [15]) (by kernel_rfl) (by simp) ?_
              refine AllReadyH.cons (o := _) rfl (fun K hK => ?_) ?_
              · clear hHeld
                have s0 := HRY.out.2.1
                have s1 := HRY.out.2.2.1
                have s2 := HRY.out.2.2.2.1
                have s3 := HRY.out.2.2.2.2.1
                have z0 := HRY.out.2.2.2.2.2 0
                have z1 := HRY.out.2.2.2.2.2 1
                have z2 := HRY.out.2.2.2.2.2 2
                have z3 := HRY.out.2.2.2.2.2 3
                go_simp
                clear s0 s1 s2 s3 z0 z1 z2 z3
                obtain ⟨W21, hWn⟩ : ∃ xw9, set4 W20 ry (.int .i64 y.1) (.float .f64 y.2.1) (.int .i32 y.2.2.1) (sy) = xw9 := ⟨_, rfl⟩
                have hWn2 := hWn
                unfold set4 at hWn2
                rw [hWn2]
                clear hWn2
                replace HRY := Lib.hid (show Blk4 W21 ry (.int .i64 y.1) (.float .f64 y.2.1) (.int .i32 y.2.2.1) (sy) by rw [← hWn]; exact HRY.out.put4 _ _ _ _)
                replace HRX := Lib.hid (show Blk4 W21 rx _ _ _ _ by rw [← hWn]; exact HRX.out.far4 HNE.out _ _ _ _)
                replace HW0 := Lib.hid (show Below W14.heap.size W14 W21 by rw [← hWn]; exact below_set4 HW0.out HRYG.out _ _ _ _)
                replace HA := Lib.hid (HAS.out.below HW0.out)
                replace HA2 := Lib.hid (HAS2.out.below HW0.out)
                replace HCX := Lib.hid (show C4 W21 bx ox (.int .i64 x.1) (.float .f64 x.2.1) (.int .i32 x.2.2.1) (sx) by rw [← hWn]; exact HCX.out.far NHCXry.out _ _ _ _)
                replace HCY := Lib.hid (show C4 W21 by_ oy (.int .i64 y.1) (.float .f64 y.2.1) (.int .i32 y.2.2.1) (sy) by rw [← hWn]; exact HCY.out.far NHCYry.out _ _ _ _)
                clear hWn
                refine hK.out _ _ ?_ (fun hHeld => ?_)
                · exact ⟨HA.out.2.1, HA.out.2.2.1, HA.out.2.2.2.1, HA2.out.2.1, HA2.out.2.2.1, HA2.out.2.2.2.1, HCX.out.1, HCX.out.2.1, HCX.out.2.2.1, HCX.out.2.2.2, HCY.out.1, HCY.out.2.1, HCY.out.2.2.1, HCY.out.2.2.2⟩
                clear hK K
                refine wpAnyH_done (by kernel_rfl) ?_ _
                clear hHeld
                refine ⟨rfl, .agg #[.slice txo (tidyP 40 p).s.length txc, .slice (some ⟨bx, ox0, none⟩) n txd, .int .i64 (tidyP 40 p).f], .slice (some ⟨bx, ox0, none⟩) n txd, .pointer (some ⟨bx, ox, none⟩), .agg #[.slice tyo (tidyP 40 q).s.length tyc, .slice (some ⟨by_, oy0, none⟩) m tyd, .int .i64 (tidyP 40 q).f], .slice (some ⟨by_, oy0, none⟩) m tyd, .pointer (some ⟨by_, oy, none⟩), sx, sy, rx, ry, ?_, HRX.out, HRY.out, HW0.out⟩
                first | rfl | kernel_rfl
              exact AllReadyH.nil
            exact AllReadyH.nil
          exact AllReadyH.nil
        exact AllReadyH.nil
      refine AllReadyH.cons (o := _) rfl (fun K hK => ?_) ?_
      · clear hHeld
        go_simp
        obtain ⟨W17, hWn⟩ : ∃ xw9, W16.alloc (.cells #[.int .i64 0, .float .f64 0, .int .i32 0, .slice none 0 0] 32) = xw9 := ⟨_, rfl⟩
        have hB : Below W16.heap.size W16 W17 := by rw [← hWn]; exact below_new _ _
        have hNB : Blk4 W17 W16.heap.size (.int .i64 0) (.float .f64 0) (.int .i32 0) (.slice none 0 0) := by rw [← hWn]; exact Blk4.new _ _ _ _ _ _
        have hge : W14.heap.size ≤ W16.heap.size := HW0.out.size
        rw [hWn]
        clear hWn
        obtain ⟨ry, hnm⟩ : ∃ z, W16.heap.size = z := ⟨_, rfl⟩
        
        have HNE := Lib.hid (show rx ≠ ry by have := HRX.out.1; omega)
        rw [hnm] at hNB hge ⊢
        replace HA := Lib.hid (HA.out.below hB)
        replace HA2 := Lib.hid (HA2.out.below hB)
        replace HW0 := Lib.hid (HW0.out.trans (hB.mono HW0.out.size))
        replace HIW := Lib.hid (HIW.out.grow hB)
        replace HIW2 := Lib.hid (HIW2.out.grow hB)
        replace HRX := Lib.hid (HRX.out.below hB)
        have HRY := Lib.hid hNB
        have HRYG := Lib.hid hge
        clear hNB hB hnm hge
        refine hK.out _ _ ?_ (fun hHeld => ?_)
        · exact ⟨HA.out.2.1, HA.out.2.2.1, HA.out.2.2.2.1, HA2.out.2.1, HA2.out.2.2.1, HA2.out.2.2.2.1⟩
        clear hK K
        refine wpAnyH_ready (rs := [1]) (by kernel_rfl) (by simp) ?_
        refine AllReadyH.cons (o := _) rfl (fun K hK => ?_) ?_
        · clear hHeld
          go_simp
          have hrx := HRX.out.1
          have grx := HRXG.out
          have hry := HRY.out.1
          have gry := HRYG.out
          refine (ptidy_calls 40 _ p _ _ HCP.out HIW.out).mono ?_
          rintro e W18 ⟨ut, rfl, hut, hB⟩
          replace HA := Lib.hid (HA.out.below hB)
          replace HA2 := Lib.hid (HA2.out.below hB)
          replace HW0 := Lib.hid (HW0.out.trans (hB.mono HW0.out.size))
          replace HIW := Lib.hid (HIW.out.grow hB)
          replace HIW2 := Lib.hid (HIW2.out.grow hB)
          replace HRX := Lib.hid (HRX.out.below hB)
          replace HRY := Lib.hid (HRY.out.below hB)
          obtain ⟨txo, txc, txi, txd, rfl, _, hti⟩ := hut.opened
          rw [HLT1.out, HN.out] at hti ⊢
          obtain ⟨bx, ox0, q1, q2, he9, hok, d0, d1, d2, d3, _⟩ := hti.at HX.out
          subst he9
          obtain ⟨ox, hof⟩ : ∃ z, ox0 + i * 4 = z := ⟨_, rfl⟩
          have oxE := hof
          rw [hof] at d0 d1 d2 d3
          obtain ⟨sx, hsv9⟩ : ∃ z, Value.slice q1 x.2.2.2.length q2 = z := ⟨_, rfl⟩
          rw [hsv9] at d3
          have hstsx : (∀ (w : World) (a : Addr) (m : Mode), (store a sx m).run Tryd.prog w = stored Tryd.prog w a sx m) := by subst hsv9; exact fun w a m => run_store Tryd.prog w a _ m rfl
          have HCX := Lib.hid (show C4 W18 bx ox (.int .i64 x.1) (.float .f64 x.2.1) (.int .i32 x.2.2.1) (sx) from ⟨d0, d1, d2, d3⟩)
          clear hut hti d0 d1 d2 d3 hsv9 hof
          have NHCXrx := Lib.hid (show bx ≠ rx by rcases hok with ⟨⟨_, h1⟩, _⟩ | h1 <;> omega)
          clear hrx grx
          have NHCXry := Lib.hid (show bx ≠ ry by rcases hok with ⟨⟨_, h1⟩, _⟩ | h1 <;> omega)
          clear hry gry
          clear hok
          clear hB
          refine hK.out _ _ ?_ (fun hHeld => ?_)
          · exact ⟨HA.out.2.1, HA.out.2.2.1, HA.out.2.2.2.1, HA2.out.2.1, HA2.out.2.2.1, HA2.out.2.2.2.1⟩
          clear hK K
          refine anyH_str (S' := fun w' => w'.cell? ⟨w.heap.size, 0, none⟩ = some (.slice so p.s.length sc) ∧ w'.cell? ⟨w.heap.size, 1, none⟩ = some (.slice io n ic) ∧ w'.cell? ⟨w.heap.size, 2, none⟩ = some (.int .i64 f) ∧ w'.cell? ⟨w.heap.size + 1, 0, none⟩ = some (.slice qo q.s.length qc) ∧ w'.cell? ⟨w.heap.size + 1, 1, none⟩ = some (.slice jo m jc) ∧ w'.cell? ⟨w.heap.size + 1, 2, none⟩ = some (.int .i64 g) ∧ w'.cell? ⟨bx, ox, none⟩ = some (.int .i64 x.1) ∧ w'.cell? ⟨bx, ox + 1, none⟩ = some (.float .f64 x.2.1) ∧ w'.cell? ⟨bx, ox + 2, none⟩ = some (.int .i32 x.2.2.1) ∧ w'.cell? ⟨bx, ox + 3, none⟩ = some (sx)) (fun _ h => ⟨h.1, h.2.1, h.2.2.1, h.2.2.2.1, h.2.2.2.2.1, h.2.2.2.2.2.1⟩) _ _ _ _ ?_
          replace hHeld := (show (fun w' => w'.cell? ⟨w.heap.size, 0, none⟩ = some (.slice so p.s.length sc) ∧ w'.cell? ⟨w.heap.size, 1, none⟩ = some (.slice io n ic) ∧ w'.cell? ⟨w.heap.size, 2, none⟩ = some (.int .i64 f) ∧ w'.cell? ⟨w.heap.size + 1, 0, none⟩ = some (.slice qo q.s.length qc) ∧ w'.cell? ⟨w.heap.size + 1, 1, none⟩ = some (.slice jo m jc) ∧ w'.cell? ⟨w.heap.size + 1, 2, none⟩ = some (.int .i64 g) ∧ w'.cell? ⟨bx, ox, none⟩ = some (.int .i64 x.1) ∧ w'.cell? ⟨bx, ox + 1, none⟩ = some (.float .f64 x.2.1) ∧ w'.cell? ⟨bx, ox + 2, none⟩ = some (.int .i32 x.2.2.1) ∧ w'.cell? ⟨bx, ox + 3, none⟩ = some (sx)) W18 from ⟨HA.out.2.1, HA.out.2.2.1, HA.out.2.2.2.1, HA2.out.2.1, HA2.out.2.2.1, HA2.out.2.2.2.1, HCX.out.1, HCX.out.2.1, HCX.out.2.2.1, HCX.out.2.2.2⟩)
          refine wpAnyH_take (i := 2) (v := ?_) rfl (by kernel_rfl) (by kernel_rfl) (by kernel_rfl) (fun _ _ _ h => absurd h.1 (by simp)) (Or.inl ⟨by rfl, ?_⟩) (by assumption) ?_
          rotate_left
          · (intro w hSw; (try dsimp only at hSw); go_simp; try with_reducible rfl)
          simp only [Act.put, List.getElem_toArray, List.getElem_cons_succ, List.getElem_cons_zero, List.setIfInBounds_toArray, List.set_cons_zero, List.set_cons_succ]
          refine wpAnyH_take (i := 4) (v := ?_) rfl (by kernel_rfl) (by kernel_rfl) (by kernel_rfl) (fun _ _ _ h => absurd h.1 (by simp)) (Or.inl ⟨by rfl, ?_⟩) (by assumption) ?_
          rotate_left
          · (intro w hSw; (try dsimp only at hSw); go_simp; try with_reducible rfl)
          simp only [Act.put, List.getElem_toArray, List.getElem_cons_succ, List.getElem_cons_zero, List.setIfInBounds_toArray, List.set_cons_zero, List.set_cons_succ]
          refine wpAnyH_take (i := 5) (v := ?_) rfl (by kernel_rfl) (by kernel_rfl) (by kernel_rfl) (fun _ _ _ h => absurd h.1 (by simp)) (Or.inl ⟨by rfl, ?_⟩) (by assumption) ?_
          rotate_left
          · (intro w hSw; (try dsimp only at hSw); go_simp; try with_reducible rfl)
          simp only [Act.put, List.getElem_toArray, List.getElem_cons_succ, List.getElem_cons_zero, List.setIfInBounds_toArray, List.set_cons_zero, List.set_cons_succ]
          refine wpAnyH_ready (rs := [7]) (by kernel_rfl) (by simp) ?_
          refine AllReadyH.cons (o := _) rfl (fun K hK => ?_) ?_
          · clear hHeld
            go_simp
            have hrx := HRX.out.1
            have grx := HRXG.out
            have hry := HRY.out.1
            have gry := HRYG.out
            refine (ptidy_calls 40 _ q _ _ HCQ.out HIW2.out).mono ?_
            rintro e W19 ⟨ut, rfl, hut, hB⟩
            replace HA := Lib.hid (HA.out.below hB)
            replace HA2 := Lib.hid (HA2.out.below hB)
            replace HW0 := Lib.hid (HW0.out.trans (hB.mono HW0.out.size))
            replace HIW := Lib.hid (HIW.out.grow hB)
            replace HIW2 := Lib.hid (HIW2.out.grow hB)
            replace HRX := Lib.hid (HRX.out.below hB)
            replace HRY := Lib.hid (HRY.out.below hB)
            replace HCX := Lib.hid (HCX.out.below hB)
            obtain ⟨tyo, tyc, tyi, tyd, rfl, _, hti⟩ := hut.opened
            rw [HLT2.out, HM.out] at hti ⊢
            obtain ⟨by_, oy0, q1, q2, he9, hok, d0, d1, d2, d3, _⟩ := hti.at HY.out
            subst he9
            obtain ⟨oy, hof⟩ : ∃ z, oy0 + k * 4 = z := ⟨_, rfl⟩
            have oyE := hof
            rw [hof] at d0 d1 d2 d3
            obtain ⟨sy, hsv9⟩ : ∃ z, Value.slice q1 y.2.2.2.length q2 = z := ⟨_, rfl⟩
            rw [hsv9] at d3
            have hstsy : (∀ (w : World) (a : Addr) (m : Mode), (store a sy m).run Tryd.prog w = stored Tryd.prog w a sy m) := by subst hsv9; exact fun w a m => run_store Tryd.prog w a _ m rfl
            have HCY := Lib.hid (show C4 W19 by_ oy (.int .i64 y.1) (.float .f64 y.2.1) (.int .i32 y.2.2.1) (sy) from ⟨d0, d1, d2, d3⟩)
            clear hut hti d0 d1 d2 d3 hsv9 hof
            have NHCYrx := Lib.hid (show by_ ≠ rx by rcases hok with ⟨⟨_, h1⟩, _⟩ | h1 <;> omega)
            clear hrx grx
            have NHCYry := Lib.hid (show by_ ≠ ry by rcases hok with ⟨⟨_, h1⟩, _⟩ | h1 <;> omega)
            clear hry gry
            clear hok
            clear hB
            refine hK.out _ _ ?_ (fun hHeld => ?_)
            · exact ⟨HA.out.2.1, HA.out.2.2.1, HA.out.2.2.2.1, HA2.out.2.1, HA2.out.2.2.1, HA2.out.2.2.2.1, HCX.out.1, HCX.out.2.1, HCX.out.2.2.1, HCX.out.2.2.2⟩
            clear hK K
            refine anyH_str (S' := fun w' => w'.cell? ⟨w.heap.size, 0, none⟩ = some (.slice so p.s.length sc) ∧ w'.cell? ⟨w.heap.size, 1, none⟩ = some (.slice io n ic) ∧ w'.cell? ⟨w.heap.size, 2, none⟩ = some (.int .i64 f) ∧ w'.cell? ⟨w.heap.size + 1, 0, none⟩ = some (.slice qo q.s.length qc) ∧ w'.cell? ⟨w.heap.size + 1, 1, none⟩ = some (.slice jo m jc) ∧ w'.cell? ⟨w.heap.size + 1, 2, none⟩ = some (.int .i64 g) ∧ w'.cell? ⟨bx, ox, none⟩ = some (.int .i64 x.1) ∧ w'.cell? ⟨bx, ox + 1, none⟩ = some (.float .f64 x.2.1) ∧ w'.cell? ⟨bx, ox + 2, none⟩ = some (.int .i32 x.2.2.1) ∧ w'.cell? ⟨bx, ox + 3, none⟩ = some (sx) ∧ w'.cell? ⟨by_, oy, none⟩ = some (.int .i64 y.1) ∧ w'.cell? ⟨by_, oy + 1, none⟩ = some (.float .f64 y.2.1) ∧ w'.cell? ⟨by_, oy + 2, none⟩ = some (.int .i32 y.2.2.1) ∧ w'.cell? ⟨by_, oy + 3, none⟩ = some (sy)) (fun _ h => ⟨h.1, h.2.1, h.2.2.1, h.2.2.2.1, h.2.2.2.2.1, h.2.2.2.2.2.1, h.2.2.2.2.2.2.1, h.2.2.2.2.2.2.2.1, h.2.2.2.2.2.2.2.2.1, h.2.2.2.2.2.2.2.2.2.1⟩) _ _ _ _ ?_
            replace hHeld := (show (fun w' => w'.cell? ⟨w.heap.size, 0, none⟩ = some (.slice so p.s.length sc) ∧ w'.cell? ⟨w.heap.size, 1, none⟩ = some (.slice io n ic) ∧ w'.cell? ⟨w.heap.size, 2, none⟩ = some (.int .i64 f) ∧ w'.cell? ⟨w.heap.size + 1, 0, none⟩ = some (.slice qo q.s.length qc) ∧ w'.cell? ⟨w.heap.size + 1, 1, none⟩ = some (.slice jo m jc) ∧ w'.cell? ⟨w.heap.size + 1, 2, none⟩ = some (.int .i64 g) ∧ w'.cell? ⟨bx, ox, none⟩ = some (.int .i64 x.1) ∧ w'.cell? ⟨bx, ox + 1, none⟩ = some (.float .f64 x.2.1) ∧ w'.cell? ⟨bx, ox + 2, none⟩ = some (.int .i32 x.2.2.1) ∧ w'.cell? ⟨bx, ox + 3, none⟩ = some (sx) ∧ w'.cell? ⟨by_, oy, none⟩ = some (.int .i64 y.1) ∧ w'.cell? ⟨by_, oy + 1, none⟩ = some (.float .f64 y.2.1) ∧ w'.cell? ⟨by_, oy + 2, none⟩ = some (.int .i32 y.2.2.1) ∧ w'.cell? ⟨by_, oy + 3, none⟩ = some (sy)) W19 from ⟨HA.out.2.1, HA.out.2.2.1, HA.out.2.2.2.1, HA2.out.2.1, HA2.out.2.2.1, HA2.out.2.2.2.1, HCX.out.1, HCX.out.2.1, HCX.out.2.2.1, HCX.out.2.2.2, HCY.out.1, HCY.out.2.1, HCY.out.2.2.1, HCY.out.2.2.2⟩)
            refine wpAnyH_take (i := 8) (v := ?_) rfl (by kernel_rfl) (by kernel_rfl) (by kernel_rfl) (fun _ _ _ h => absurd h.1 (by simp)) (Or.inl ⟨by rfl, ?_⟩) (by assumption) ?_
            rotate_left
            · (intro w hSw; (try dsimp only at hSw); go_simp; try with_reducible rfl)
            simp only [Act.put, List.getElem_toArray, List.getElem_cons_succ, List.getElem_cons_zero, List.setIfInBounds_toArray, List.set_cons_zero, List.set_cons_succ]
            refine wpAnyH_take (i := 10) (v := ?_) rfl (by kernel_rfl) (by kernel_rfl) (by kernel_rfl) (fun _ _ _ h => absurd h.1 (by simp)) (Or.inl ⟨by rfl, ?_⟩) (by assumption) ?_
            rotate_left
            · (intro w hSw; (try dsimp only at hSw); go_simp; try with_reducible rfl)
            simp only [Act.put, List.getElem_toArray, List.getElem_cons_succ, List.getElem_cons_zero, List.setIfInBounds_toArray, List.set_cons_zero, List.set_cons_succ]
            refine wpAnyH_take (i := 11) (v := ?_) rfl (by kernel_rfl) (by kernel_rfl) (by kernel_rfl) (fun _ _ _ h => absurd h.1 (by simp)) (Or.inl ⟨by rfl, ?_⟩) (by assumption) ?_
            rotate_left
            · (intro w hSw; (try dsimp only at hSw); go_simp; try with_reducible rfl)
            simp only [Act.put, List.getElem_toArray, List.getElem_cons_succ, List.getElem_cons_zero, List.setIfInBounds_toArray, List.set_cons_zero, List.set_cons_succ]
            refine wpAnyH_ready (rs := [14]) (by kernel_rfl) (by simp) ?_
            refine AllReadyH.cons (o := _) rfl (fun K hK => ?_) ?_
            · clear hHeld
              have s0 := HRX.out.2.1
              have s1 := HRX.out.2.2.1
              have s2 := HRX.out.2.2.2.1
              have s3 := HRX.out.2.2.2.2.1
              have z0 := HRX.out.2.2.2.2.2 0
              have z1 := HRX.out.2.2.2.2.2 1
              have z2 := HRX.out.2.2.2.2.2 2
              have z3 := HRX.out.2.2.2.2.2 3
              go_simp
              clear s0 s1 s2 s3 z0 z1 z2 z3
              obtain ⟨W20, hWn⟩ : ∃ xw9, set4 W19 rx (.int .i64 x.1) (.float .f64 x.2.1) (.int .i32 x.2.2.1) (sx) = xw9 := ⟨_, rfl⟩
              have hWn2 := hWn
              unfold set4 at hWn2
              rw [hWn2]
              clear hWn2
              replace HRX := Lib.hid (show Blk4 W20 rx (.int .i64 x.1) (.float .f64 x.2.1) (.int .i32 x.2.2.1) (sx) by rw [← hWn]; exact HRX.out.put4 _ _ _ _)
              replace HRY := Lib.hid (show Blk4 W20 ry _ _ _ _ by rw [← hWn]; exact HRY.out.far4 (Ne.symm HNE.out) _ _ _ _)
              replace HW0 := Lib.hid (show Below W14.heap.size W14 W20 by rw [← hWn]; exact below_set4 HW0.out HRXG.out _ _ _ _)
              replace HA := Lib.hid (HAS.out.below HW0.out)
              replace HA2 := Lib.hid (HAS2.out.below HW0.out)
              replace HCX := Lib.hid (show C4 W20 bx ox (.int .i64 x.1) (.float .f64 x.2.1) (.int .i32 x.2.2.1) (sx) by rw [← hWn]; exact HCX.out.far NHCXrx.out _ _ _ _)
              replace HCY := Lib.hid (show C4 W20 by_ oy (.int .i64 y.1) (.float .f64 y.2.1) (.int .i32 y.2.2.1) (sy) by rw [← hWn]; exact HCY.out.far NHCYrx.out _ _ _ _)
              clear hWn
              refine hK.out _ _ ?_ (fun hHeld => ?_)
              · exact ⟨HA.out.2.1, HA.out.2.2.1, HA.out.2.2.2.1, HA2.out.2.1, HA2.out.2.2.1, HA2.out.2.2.2.1, HCX.out.1, HCX.out.2.1, HCX.out.2.2.1, HCX.out.2.2.2, HCY.out.1, HCY.out.2.1, HCY.out.2.2.1, HCY.out.2.2.2⟩
              clear hK K
              refine wpAnyH_ready (rs := [15]) (by kernel_rfl) (by simp) ?_
              refine AllReadyH.cons (o := _) rfl (fun K hK => ?_) ?_
              · clear hHeld
                have s0 := HRY.out.2.1
                have s1 := HRY.out.2.2.1
                have s2 := HRY.out.2.2.2.1
                have s3 := HRY.out.2.2.2.2.1
                have z0 := HRY.out.2.2.2.2.2 0
                have z1 := HRY.out.2.2.2.2.2 1
                have z2 := HRY.out.2.2.2.2.2 2
                have z3 := HRY.out.2.2.2.2.2 3
                go_simp
                clear s0 s1 s2 s3 z0 z1 z2 z3
                obtain ⟨W21, hWn⟩ : ∃ xw9, set4 W20 ry (.int .i64 y.1) (.float .f64 y.2.1) (.int .i32 y.2.2.1) (sy) = xw9 := ⟨_, rfl⟩
                have hWn2 := hWn
                unfold set4 at hWn2
                rw [hWn2]
                clear hWn2
                replace HRY := Lib.hid (show Blk4 W21 ry (.int .i64 y.1) (.float .f64 y.2.1) (.int .i32 y.2.2.1) (sy) by rw [← hWn]; exact HRY.out.put4 _ _ _ _)
                replace HRX := Lib.hid (show Blk4 W21 rx _ _ _ _ by rw [← hWn]; exact HRX.out.far4 HNE.out _ _ _ _)
                replace HW0 := Lib.hid (show Below W14.heap.size W14 W21 by rw [← hWn]; exact below_set4 HW0.out HRYG.out _ _ _ _)
                replace HA := Lib.hid (HAS.out.below HW0.out)
                replace HA2 := Lib.hid (HAS2.out.below HW0.out)
                replace HCX := Lib.hid (show C4 W21 bx ox (.int .i64 x.1) (.float .f64 x.2.1) (.int .i32 x.2.2.1) (sx) by rw [← hWn]; exact HCX.out.far NHCXry.out _ _ _ _)
                replace HCY := Lib.hid (show C4 W21 by_ oy (.int .i64 y.1) (.float .f64 y.2.1) (.int .i32 y.2.2.1) (sy) by rw [← hWn]; exact HCY.out.far NHCYry.out _ _ _ _)
                clear hWn
                refine hK.out _ _ ?_ (fun hHeld => ?_)
                · exact ⟨HA.out.2.1, HA.out.2.2.1, HA.out.2.2.2.1, HA2.out.2.1, HA2.out.2.2.1, HA2.out.2.2.2.1, HCX.out.1, HCX.out.2.1, HCX.out.2.2.1, HCX.out.2.2.2, HCY.out.1, HCY.out.2.1, HCY.out.2.2.1, HCY.out.2.2.2⟩
                clear hK K
                refine wpAnyH_done (by kernel_rfl) ?_ _
                clear hHeld
                refine ⟨rfl, .agg #[.slice txo (tidyP 40 p).s.length txc, .slice (some ⟨bx, ox0, none⟩) n txd, .int .i64 (tidyP 40 p).f], .slice (some ⟨bx, ox0, none⟩) n txd, .pointer (some ⟨bx, ox, none⟩), .agg #[.slice tyo (tidyP 40 q).s.length tyc, .slice (some ⟨by_, oy0, none⟩) m tyd, .int .i64 (tidyP 40 q).f], .slice (some ⟨by_, oy0, none⟩) m tyd, .pointer (some ⟨by_, oy, none⟩), sx, sy, rx, ry, ?_, HRX.out, HRY.out, HW0.out⟩
                first | rfl | kernel_rfl
              exact AllReadyH.nil
            exact AllReadyH.nil
          exact AllReadyH.nil
        exact AllReadyH.nil
      exact AllReadyH.nil
    refine AllReadyH.cons (o := _) rfl (fun K hK => ?_) ?_
    · clear hHeld
      go_simp
      obtain ⟨W16, hWn⟩ : ∃ xw9, W15.alloc (.cells #[.int .i64 0, .float .f64 0, .int .i32 0, .slice none 0 0] 32) = xw9 := ⟨_, rfl⟩
      have hB : Below W15.heap.size W15 W16 := by rw [← hWn]; exact below_new _ _
      have hNB : Blk4 W16 W15.heap.size (.int .i64 0) (.float .f64 0) (.int .i32 0) (.slice none 0 0) := by rw [← hWn]; exact Blk4.new _ _ _ _ _ _
      have hge : W14.heap.size ≤ W15.heap.size := HW0.out.size
      rw [hWn]
      clear hWn
      obtain ⟨ry, hnm⟩ : ∃ z, W15.heap.size = z := ⟨_, rfl⟩
      
      rw [hnm] at hNB hge ⊢
      replace HA := Lib.hid (HA.out.below hB)
      replace HA2 := Lib.hid (HA2.out.below hB)
      replace HW0 := Lib.hid (HW0.out.trans (hB.mono HW0.out.size))
      replace HIW := Lib.hid (HIW.out.grow hB)
      replace HIW2 := Lib.hid (HIW2.out.grow hB)
      have HRY := Lib.hid hNB
      have HRYG := Lib.hid hge
      clear hNB hB hnm hge
      refine hK.out _ _ ?_ (fun hHeld => ?_)
      · exact ⟨HA.out.2.1, HA.out.2.2.1, HA.out.2.2.2.1, HA2.out.2.1, HA2.out.2.2.1, HA2.out.2.2.2.1⟩
      clear hK K
      refine wpAnyH_ready (rs := [1, 12]) (by kernel_rfl) (by simp) ?_
      refine AllReadyH.cons (o := _) rfl (fun K hK => ?_) ?_
      · clear hHeld
        go_simp
        have hry := HRY.out.1
        have gry := HRYG.out
        refine (ptidy_calls 40 _ p _ _ HCP.out HIW.out).mono ?_
        rintro e W17 ⟨ut, rfl, hut, hB⟩
        replace HA := Lib.hid (HA.out.below hB)
        replace HA2 := Lib.hid (HA2.out.below hB)
        replace HW0 := Lib.hid (HW0.out.trans (hB.mono HW0.out.size))
        replace HIW := Lib.hid (HIW.out.grow hB)
        replace HIW2 := Lib.hid (HIW2.out.grow hB)
        replace HRY := Lib.hid (HRY.out.below hB)
        obtain ⟨txo, txc, txi, txd, rfl, _, hti⟩ := hut.opened
        rw [HLT1.out, HN.out] at hti ⊢
        obtain ⟨bx, ox0, q1, q2, he9, hok, d0, d1, d2, d3, _⟩ := hti.at HX.out
        subst he9
        obtain ⟨ox, hof⟩ : ∃ z, ox0 + i * 4 = z := ⟨_, rfl⟩
        have oxE := hof
        rw [hof] at d0 d1 d2 d3
        obtain ⟨sx, hsv9⟩ : ∃ z, Value.slice q1 x.2.2.2.length q2 = z := ⟨_, rfl⟩
        rw [hsv9] at d3
        have hstsx : (∀ (w : World) (a : Addr) (m : Mode), (store a sx m).run Tryd.prog w = stored Tryd.prog w a sx m) := by subst hsv9; exact fun w a m => run_store Tryd.prog w a _ m rfl
        have HCX := Lib.hid (show C4 W17 bx ox (.int .i64 x.1) (.float .f64 x.2.1) (.int .i32 x.2.2.1) (sx) from ⟨d0, d1, d2, d3⟩)
        clear hut hti d0 d1 d2 d3 hsv9 hof
        have NHCXry := Lib.hid (show bx ≠ ry by rcases hok with ⟨⟨_, h1⟩, _⟩ | h1 <;> omega)
        clear hry gry
        clear hok
        clear hB
        refine hK.out _ _ ?_ (fun hHeld => ?_)
        · exact ⟨HA.out.2.1, HA.out.2.2.1, HA.out.2.2.2.1, HA2.out.2.1, HA2.out.2.2.1, HA2.out.2.2.2.1⟩
        clear hK K
        refine anyH_str (S' := fun w' => w'.cell? ⟨w.heap.size, 0, none⟩ = some (.slice so p.s.length sc) ∧ w'.cell? ⟨w.heap.size, 1, none⟩ = some (.slice io n ic) ∧ w'.cell? ⟨w.heap.size, 2, none⟩ = some (.int .i64 f) ∧ w'.cell? ⟨w.heap.size + 1, 0, none⟩ = some (.slice qo q.s.length qc) ∧ w'.cell? ⟨w.heap.size + 1, 1, none⟩ = some (.slice jo m jc) ∧ w'.cell? ⟨w.heap.size + 1, 2, none⟩ = some (.int .i64 g) ∧ w'.cell? ⟨bx, ox, none⟩ = some (.int .i64 x.1) ∧ w'.cell? ⟨bx, ox + 1, none⟩ = some (.float .f64 x.2.1) ∧ w'.cell? ⟨bx, ox + 2, none⟩ = some (.int .i32 x.2.2.1) ∧ w'.cell? ⟨bx, ox + 3, none⟩ = some (sx)) (fun _ h => ⟨h.1, h.2.1, h.2.2.1, h.2.2.2.1, h.2.2.2.2.1, h.2.2.2.2.2.1⟩) _ _ _ _ ?_
        replace hHeld := (show (fun w' => w'.cell? ⟨w.heap.size, 0, none⟩ = some (.slice so p.s.length sc) ∧ w'.cell? ⟨w.heap.size, 1, none⟩ = some (.slice io n ic) ∧ w'.cell? ⟨w.heap.size, 2, none⟩ = some (.int .i64 f) ∧ w'.cell? ⟨w.heap.size + 1, 0, none⟩ = some (.slice qo q.s.length qc) ∧ w'.cell? ⟨w.heap.size + 1, 1, none⟩ = some (.slice jo m jc) ∧ w'.cell? ⟨w.heap.size + 1, 2, none⟩ = some (.int .i64 g) ∧ w'.cell? ⟨bx, ox, none⟩ = some (.int .i64 x.1) ∧ w'.cell? ⟨bx, ox + 1, none⟩ = some (.float .f64 x.2.1) ∧ w'.cell? ⟨bx, ox + 2, none⟩ = some (.int .i32 x.2.2.1) ∧ w'.cell? ⟨bx, ox + 3, none⟩ = some (sx)) W17 from ⟨HA.out.2.1, HA.out.2.2.1, HA.out.2.2.2.1, HA2.out.2.1, HA2.out.2.2.1, HA2.out.2.2.2.1, HCX.out.1, HCX.out.2.1, HCX.out.2.2.1, HCX.out.2.2.2⟩)
        refine wpAnyH_take (i := 2) (v := ?_) rfl (by kernel_rfl) (by kernel_rfl) (by kernel_rfl) (fun _ _ _ h => absurd h.1 (by simp)) (Or.inl ⟨by rfl, ?_⟩) (by assumption) ?_
        rotate_left
        · (intro w hSw; (try dsimp only at hSw); go_simp; try with_reducible rfl)
        simp only [Act.put, List.getElem_toArray, List.getElem_cons_succ, List.getElem_cons_zero, List.setIfInBounds_toArray, List.set_cons_zero, List.set_cons_succ]
        refine wpAnyH_take (i := 4) (v := ?_) rfl (by kernel_rfl) (by kernel_rfl) (by kernel_rfl) (fun _ _ _ h => absurd h.1 (by simp)) (Or.inl ⟨by rfl, ?_⟩) (by assumption) ?_
        rotate_left
        · (intro w hSw; (try dsimp only at hSw); go_simp; try with_reducible rfl)
        simp only [Act.put, List.getElem_toArray, List.getElem_cons_succ, List.getElem_cons_zero, List.setIfInBounds_toArray, List.set_cons_zero, List.set_cons_succ]
        refine wpAnyH_take (i := 5) (v := ?_) rfl (by kernel_rfl) (by kernel_rfl) (by kernel_rfl) (fun _ _ _ h => absurd h.1 (by simp)) (Or.inl ⟨by rfl, ?_⟩) (by assumption) ?_
        rotate_left
        · (intro w hSw; (try dsimp only at hSw); go_simp; try with_reducible rfl)
        simp only [Act.put, List.getElem_toArray, List.getElem_cons_succ, List.getElem_cons_zero, List.setIfInBounds_toArray, List.set_cons_zero, List.set_cons_succ]
        refine wpAnyH_ready (rs := [7, 12]) (by kernel_rfl) (by simp) ?_
        refine AllReadyH.cons (o := _) rfl (fun K hK => ?_) ?_
        · clear hHeld
          go_simp
          have hry := HRY.out.1
          have gry := HRYG.out
          refine (ptidy_calls 40 _ q _ _ HCQ.out HIW2.out).mono ?_
          rintro e W18 ⟨ut, rfl, hut, hB⟩
          replace HA := Lib.hid (HA.out.below hB)
          replace HA2 := Lib.hid (HA2.out.below hB)
          replace HW0 := Lib.hid (HW0.out.trans (hB.mono HW0.out.size))
          replace HIW := Lib.hid (HIW.out.grow hB)
          replace HIW2 := Lib.hid (HIW2.out.grow hB)
          replace HRY := Lib.hid (HRY.out.below hB)
          replace HCX := Lib.hid (HCX.out.below hB)
          obtain ⟨tyo, tyc, tyi, tyd, rfl, _, hti⟩ := hut.opened
          rw [HLT2.out, HM.out] at hti ⊢
          obtain ⟨by_, oy0, q1, q2, he9, hok, d0, d1, d2, d3, _⟩ := hti.at HY.out
          subst he9
          obtain ⟨oy, hof⟩ : ∃ z, oy0 + k * 4 = z := ⟨_, rfl⟩
          have oyE := hof
          rw [hof] at d0 d1 d2 d3
          obtain ⟨sy, hsv9⟩ : ∃ z, Value.slice q1 y.2.2.2.length q2 = z := ⟨_, rfl⟩
          rw [hsv9] at d3
          have hstsy : (∀ (w : World) (a : Addr) (m : Mode), (store a sy m).run Tryd.prog w = stored Tryd.prog w a sy m) := by subst hsv9; exact fun w a m => run_store Tryd.prog w a _ m rfl
          have HCY := Lib.hid (show C4 W18 by_ oy (.int .i64 y.1) (.float .f64 y.2.1) (.int .i32 y.2.2.1) (sy) from ⟨d0, d1, d2, d3⟩)
          clear hut hti d0 d1 d2 d3 hsv9 hof
          have NHCYry := Lib.hid (show by_ ≠ ry by rcases hok with ⟨⟨_, h1⟩, _⟩ | h1 <;> omega)
          clear hry gry
          clear hok
          clear hB
          refine hK.out _ _ ?_ (fun hHeld => ?_)
          · exact ⟨HA.out.2.1, HA.out.2.2.1, HA.out.2.2.2.1, HA2.out.2.1, HA2.out.2.2.1, HA2.out.2.2.2.1, HCX.out.1, HCX.out.2.1, HCX.out.2.2.1, HCX.out.2.2.2⟩
          clear hK K
          refine anyH_str (S' := fun w' => w'.cell? ⟨w.heap.size, 0, none⟩ = some (.slice so p.s.length sc) ∧ w'.cell? ⟨w.heap.size, 1, none⟩ = some (.slice io n ic) ∧ w'.cell? ⟨w.heap.size, 2, none⟩ = some (.int .i64 f) ∧ w'.cell? ⟨w.heap.size + 1, 0, none⟩ = some (.slice qo q.s.length qc) ∧ w'.cell? ⟨w.heap.size + 1, 1, none⟩ = some (.slice jo m jc) ∧ w'.cell? ⟨w.heap.size + 1, 2, none⟩ = some (.int .i64 g) ∧ w'.cell? ⟨bx, ox, none⟩ = some (.int .i64 x.1) ∧ w'.cell? ⟨bx, ox + 1, none⟩ = some (.float .f64 x.2.1) ∧ w'.cell? ⟨bx, ox + 2, none⟩ = some (.int .i32 x.2.2.1) ∧ w'.cell? ⟨bx, ox + 3, none⟩ = some (sx) ∧ w'.cell? ⟨by_, oy, none⟩ = some (.int .i64 y.1) ∧ w'.cell? ⟨by_, oy + 1, none⟩ = some (.float .f64 y.2.1) ∧ w'.cell? ⟨by_, oy + 2, none⟩ = some (.int .i32 y.2.2.1) ∧ w'.cell? ⟨by_, oy + 3, none⟩ = some (sy)) (fun _ h => ⟨h.1, h.2.1, h.2.2.1, h.2.2.2.1, h.2.2.2.2.1, h.2.2.2.2.2.1, h.2.2.2.2.2.2.1, h.2.2.2.2.2.2.2.1, h.2.2.2.2.2.2.2.2.1, h.2.2.2.2.2.2.2.2.2.1⟩) _ _ _ _ ?_
          replace hHeld := (show (fun w' => w'.cell? ⟨w.heap.size, 0, none⟩ = some (.slice so p.s.length sc) ∧ w'.cell? ⟨w.heap.size, 1, none⟩ = some (.slice io n ic) ∧ w'.cell? ⟨w.heap.size, 2, none⟩ = some (.int .i64 f) ∧ w'.cell? ⟨w.heap.size + 1, 0, none⟩ = some (.slice qo q.s.length qc) ∧ w'.cell? ⟨w.heap.size + 1, 1, none⟩ = some (.slice jo m jc) ∧ w'.cell? ⟨w.heap.size + 1, 2, none⟩ = some (.int .i64 g) ∧ w'.cell? ⟨bx, ox, none⟩ = some (.int .i64 x.1) ∧ w'.cell? ⟨bx, ox + 1, none⟩ = some (.float .f64 x.2.1) ∧ w'.cell? ⟨bx, ox + 2, none⟩ = some (.int .i32 x.2.2.1) ∧ w'.cell? ⟨bx, ox + 3, none⟩ = some (sx) ∧ w'.cell? ⟨by_, oy, none⟩ = some (.int .i64 y.1) ∧ w'.cell? ⟨by_, oy + 1, none⟩ = some (.float .f64 y.2.1) ∧ w'.cell? ⟨by_, oy + 2, none⟩ = some (.int .i32 y.2.2.1) ∧ w'.cell? ⟨by_, oy + 3, none⟩ = some (sy)) W18 from ⟨HA.out.2.1, HA.out.2.2.1, HA.out.2.2.2.1, HA2.out.2.1, HA2.out.2.2.1, HA2.out.2.2.2.1, HCX.out.1, HCX.out.2.1, HCX.out.2.2.1, HCX.out.2.2.2, HCY.out.1, HCY.out.2.1, HCY.out.2.2.1, HCY.out.2.2.2⟩)
          refine wpAnyH_take (i := 8) (v := ?_) rfl (by kernel_rfl) (by kernel_rfl) (by kernel_rfl) (fun _ _ _ h => absurd h.1 (by simp)) (Or.inl ⟨by rfl, ?_⟩) (by assumption) ?_
          rotate_left
          · (intro w hSw; (try dsimp only at hSw); go_simp; try with_reducible rfl)
          simp only [Act.put, List.getElem_toArray, List.getElem_cons_succ, List.getElem_cons_zero, List.setIfInBounds_toArray, List.set_cons_zero, List.set_cons_succ]
          refine wpAnyH_take (i := 10) (v := ?_) rfl (by kernel_rfl) (by kernel_rfl) (by kernel_rfl) (fun _ _ _ h => absurd h.1 (by simp)) (Or.inl ⟨by rfl, ?_⟩) (by assumption) ?_
          rotate_left
          · (intro w hSw; (try dsimp only at hSw); go_simp; try with_reducible rfl)
          simp only [Act.put, List.getElem_toArray, List.getElem_cons_succ, List.getElem_cons_zero, List.setIfInBounds_toArray, List.set_cons_zero, List.set_cons_succ]
          refine wpAnyH_take (i := 11) (v := ?_) rfl (by kernel_rfl) (by kernel_rfl) (by kernel_rfl) (fun _ _ _ h => absurd h.1 (by simp)) (Or.inl ⟨by rfl, ?_⟩) (by assumption) ?_
          rotate_left
          · (intro w hSw; (try dsimp only at hSw); go_simp; try with_reducible rfl)
          simp only [Act.put, List.getElem_toArray, List.getElem_cons_succ, List.getElem_cons_zero, List.setIfInBounds_toArray, List.set_cons_zero, List.set_cons_succ]
          refine wpAnyH_ready (rs := [12]) (by kernel_rfl) (by simp) ?_
          refine AllReadyH.cons (o := _) rfl (fun K hK => ?_) ?_
          · clear hHeld
            go_simp
            obtain ⟨W19, hWn⟩ : ∃ xw9, W18.alloc (.cells #[.int .i64 0, .float .f64 0, .int .i32 0, .slice none 0 0] 32) = xw9 := ⟨_, rfl⟩
            have hB : Below W18.heap.size W18 W19 := by rw [← hWn]; exact below_new _ _
            have hNB : Blk4 W19 W18.heap.size (.int .i64 0) (.float .f64 0) (.int .i32 0) (.slice none 0 0) := by rw [← hWn]; exact Blk4.new _ _ _ _ _ _
            have hge : W14.heap.size ≤ W18.heap.size := HW0.out.size
            rw [hWn]
            clear hWn
            obtain ⟨rx, hnm⟩ : ∃ z, W18.heap.size = z := ⟨_, rfl⟩
            have NHCXrx := Lib.hid (show bx ≠ rx by have := HCX.out.lt; omega)
            have NHCYrx := Lib.hid (show by_ ≠ rx by have := HCY.out.lt; omega)
            have HNE := Lib.hid (show ry ≠ rx by have := HRY.out.1; omega)
            rw [hnm] at hNB hge ⊢
            replace HA := Lib.hid (HA.out.below hB)
            replace HA2 := Lib.hid (HA2.out.below hB)
            replace HW0 := Lib.hid (HW0.out.trans (hB.mono HW0.out.size))
            replace HIW := Lib.hid (HIW.out.grow hB)
            replace HIW2 := Lib.hid (HIW2.out.grow hB)
            replace HRY := Lib.hid (HRY.out.below hB)
            replace HCX := Lib.hid (HCX.out.below hB)
            replace HCY := Lib.hid (HCY.out.below hB)
            have HRX := Lib.hid hNB
            have HRXG := Lib.hid hge
            clear hNB hB hnm hge
            refine hK.out _ _ ?_ (fun hHeld => ?_)
            · exact ⟨HA.out.2.1, HA.out.2.2.1, HA.out.2.2.2.1, HA2.out.2.1, HA2.out.2.2.1, HA2.out.2.2.2.1, HCX.out.1, HCX.out.2.1, HCX.out.2.2.1, HCX.out.2.2.2, HCY.out.1, HCY.out.2.1, HCY.out.2.2.1, HCY.out.2.2.2⟩
            clear hK K
            refine wpAnyH_ready (rs := [14]) (by kernel_rfl) (by simp) ?_
            refine AllReadyH.cons (o := _) rfl (fun K hK => ?_) ?_
            · clear hHeld
              have s0 := HRX.out.2.1
              have s1 := HRX.out.2.2.1
              have s2 := HRX.out.2.2.2.1
              have s3 := HRX.out.2.2.2.2.1
              have z0 := HRX.out.2.2.2.2.2 0
              have z1 := HRX.out.2.2.2.2.2 1
              have z2 := HRX.out.2.2.2.2.2 2
              have z3 := HRX.out.2.2.2.2.2 3
              go_simp
              clear s0 s1 s2 s3 z0 z1 z2 z3
              obtain ⟨W20, hWn⟩ : ∃ xw9, set4 W19 rx (.int .i64 x.1) (.float .f64 x.2.1) (.int .i32 x.2.2.1) (sx) = xw9 := ⟨_, rfl⟩
              have hWn2 := hWn
              unfold set4 at hWn2
              rw [hWn2]
              clear hWn2
              replace HRX := Lib.hid (show Blk4 W20 rx (.int .i64 x.1) (.float .f64 x.2.1) (.int .i32 x.2.2.1) (sx) by rw [← hWn]; exact HRX.out.put4 _ _ _ _)
              replace HRY := Lib.hid (show Blk4 W20 ry _ _ _ _ by rw [← hWn]; exact HRY.out.far4 HNE.out _ _ _ _)
              replace HW0 := Lib.hid (show Below W14.heap.size W14 W20 by rw [← hWn]; exact below_set4 HW0.out HRXG.out _ _ _ _)
              replace HA := Lib.hid (HAS.out.below HW0.out)
              replace HA2 := Lib.hid (HAS2.out.below HW0.out)
              replace HCX := Lib.hid (show C4 W20 bx ox (.int .i64 x.1) (.float .f64 x.2.1) (.int .i32 x.2.2.1) (sx) by rw [← hWn]; exact HCX.out.far NHCXrx.out _ _ _ _)
              replace HCY := Lib.hid (show C4 W20 by_ oy (.int .i64 y.1) (.float .f64 y.2.1) (.int .i32 y.2.2.1) (sy) by rw [← hWn]; exact HCY.out.far NHCYrx.out _ _ _ _)
              clear hWn
              refine hK.out _ _ ?_ (fun hHeld => ?_)
              · exact ⟨HA.out.2.1, HA.out.2.2.1, HA.out.2.2.2.1, HA2.out.2.1, HA2.out.2.2.1, HA2.out.2.2.2.1, HCX.out.1, HCX.out.2.1, HCX.out.2.2.1, HCX.out.2.2.2, HCY.out.1, HCY.out.2.1, HCY.out.2.2.1, HCY.out.2.2.2⟩
              clear hK K
              refine wpAnyH_ready (rs := [15]) (by kernel_rfl) (by simp) ?_
              refine AllReadyH.cons (o := _) rfl (fun K hK => ?_) ?_
              · clear hHeld
                have s0 := HRY.out.2.1
                have s1 := HRY.out.2.2.1
                have s2 := HRY.out.2.2.2.1
                have s3 := HRY.out.2.2.2.2.1
                have z0 := HRY.out.2.2.2.2.2 0
                have z1 := HRY.out.2.2.2.2.2 1
                have z2 := HRY.out.2.2.2.2.2 2
                have z3 := HRY.out.2.2.2.2.2 3
                go_simp
                clear s0 s1 s2 s3 z0 z1 z2 z3
                obtain ⟨W21, hWn⟩ : ∃ xw9, set4 W20 ry (.int .i64 y.1) (.float .f64 y.2.1) (.int .i32 y.2.2.1) (sy) = xw9 := ⟨_, rfl⟩
                have hWn2 := hWn
                unfold set4 at hWn2
                rw [hWn2]
                clear hWn2
                replace HRY := Lib.hid (show Blk4 W21 ry (.int .i64 y.1) (.float .f64 y.2.1) (.int .i32 y.2.2.1) (sy) by rw [← hWn]; exact HRY.out.put4 _ _ _ _)
                replace HRX := Lib.hid (show Blk4 W21 rx _ _ _ _ by rw [← hWn]; exact HRX.out.far4 (Ne.symm HNE.out) _ _ _ _)
                replace HW0 := Lib.hid (show Below W14.heap.size W14 W21 by rw [← hWn]; exact below_set4 HW0.out HRYG.out _ _ _ _)
                replace HA := Lib.hid (HAS.out.below HW0.out)
                replace HA2 := Lib.hid (HAS2.out.below HW0.out)
                replace HCX := Lib.hid (show C4 W21 bx ox (.int .i64 x.1) (.float .f64 x.2.1) (.int .i32 x.2.2.1) (sx) by rw [← hWn]; exact HCX.out.far NHCXry.out _ _ _ _)
                replace HCY := Lib.hid (show C4 W21 by_ oy (.int .i64 y.1) (.float .f64 y.2.1) (.int .i32 y.2.2.1) (sy) by rw [← hWn]; exact HCY.out.far NHCYry.out _ _ _ _)
                clear hWn
                refine hK.out _ _ ?_ (fun hHeld => ?_)
                · exact ⟨HA.out.2.1, HA.out.2.2.1, HA.out.2.2.2.1, HA2.out.2.1, HA2.out.2.2.1, HA2.out.2.2.2.1, HCX.out.1, HCX.out.2.1, HCX.out.2.2.1, HCX.out.2.2.2, HCY.out.1, HCY.out.2.1, HCY.out.2.2.1, HCY.out.2.2.2⟩
                clear hK K
                refine wpAnyH_done (by kernel_rfl) ?_ _
                clear hHeld
                refine ⟨rfl, .agg #[.slice txo (tidyP 40 p).s.length txc, .slice (some ⟨bx, ox0, none⟩) n txd, .int .i64 (tidyP 40 p).f], .slice (some ⟨bx, ox0, none⟩) n txd, .pointer (some ⟨bx, ox, none⟩), .agg #[.slice tyo (tidyP 40 q).s.length tyc, .slice (some ⟨by_, oy0, none⟩) m tyd, .int .i64 (tidyP 40 q).f], .slice (some ⟨by_, oy0, none⟩) m tyd, .pointer (some ⟨by_, oy, none⟩), sx, sy, rx, ry, ?_, HRX.out, HRY.out, HW0.out⟩
                first | rfl | kernel_rfl
              exact AllReadyH.nil
            exact AllReadyH.nil
          exact AllReadyH.nil
        refine AllReadyH.cons (o := _) rfl (fun K hK => ?_) ?_
        · clear hHeld
          go_simp
          obtain ⟨W18, hWn⟩ : ∃ xw9, W17.alloc (.cells #[.int .i64 0, .float .f64 0, .int .i32 0, .slice none 0 0] 32) = xw9 := ⟨_, rfl⟩
          have hB : Below W17.heap.size W17 W18 := by rw [← hWn]; exact below_new _ _
          have hNB : Blk4 W18 W17.heap.size (.int .i64 0) (.float .f64 0) (.int .i32 0) (.slice none 0 0) := by rw [← hWn]; exact Blk4.new _ _ _ _ _ _
          have hge : W14.heap.size ≤ W17.heap.size := HW0.out.size
          rw [hWn]
          clear hWn
          obtain ⟨rx, hnm⟩ : ∃ z, W17.heap.size = z := ⟨_, rfl⟩
          have NHCXrx := Lib.hid (show bx ≠ rx by have := HCX.out.lt; omega)
          have HNE := Lib.hid (show ry ≠ rx by have := HRY.out.1; omega)
          rw [hnm] at hNB hge ⊢
          replace HA := Lib.hid (HA.out.below hB)
          replace HA2 := Lib.hid (HA2.out.below hB)
          replace HW0 := Lib.hid (HW0.out.trans (hB.mono HW0.out.size))
          replace HIW := Lib.hid (HIW.out.grow hB)
          replace HIW2 := Lib.hid (HIW2.out.grow hB)
          replace HRY := Lib.hid (HRY.out.below hB)
          replace HCX := Lib.hid (HCX.out.below hB)
          have HRX := Lib.hid hNB
          have HRXG := Lib.hid hge
          clear hNB hB hnm hge
          refine hK.out _ _ ?_ (fun hHeld => ?_)
          · exact ⟨HA.out.2.1, HA.out.2.2.1, HA.out.2.2.2.1, HA2.out.2.1, HA2.out.2.2.1, HA2.out.2.2.2.1, HCX.out.1, HCX.out.2.1, HCX.out.2.2.1, HCX.out.2.2.2⟩
          clear hK K
          refine wpAnyH_ready (rs := [7]) (by kernel_rfl) (by simp) ?_
          refine AllReadyH.cons (o := _) rfl (fun K hK => ?_) ?_
          · clear hHeld
            go_simp
            have hrx := HRX.out.1
            have grx := HRXG.out
            have hry := HRY.out.1
            have gry := HRYG.out
            refine (ptidy_calls 40 _ q _ _ HCQ.out HIW2.out).mono ?_
            rintro e W19 ⟨ut, rfl, hut, hB⟩
            replace HA := Lib.hid (HA.out.below hB)
            replace HA2 := Lib.hid (HA2.out.below hB)
            replace HW0 := Lib.hid (HW0.out.trans (hB.mono HW0.out.size))
            replace HIW := Lib.hid (HIW.out.grow hB)
            replace HIW2 := Lib.hid (HIW2.out.grow hB)
            replace HRY := Lib.hid (HRY.out.below hB)
            replace HCX := Lib.hid (HCX.out.below hB)
            replace HRX := Lib.hid (HRX.out.below hB)
            obtain ⟨tyo, tyc, tyi, tyd, rfl, _, hti⟩ := hut.opened
            rw [HLT2.out, HM.out] at hti ⊢
            obtain ⟨by_, oy0, q1, q2, he9, hok, d0, d1, d2, d3, _⟩ := hti.at HY.out
            subst he9
            obtain ⟨oy, hof⟩ : ∃ z, oy0 + k * 4 = z := ⟨_, rfl⟩
            have oyE := hof
            rw [hof] at d0 d1 d2 d3
            obtain ⟨sy, hsv9⟩ : ∃ z, Value.slice q1 y.2.2.2.length q2 = z := ⟨_, rfl⟩
            rw [hsv9] at d3
            have hstsy : (∀ (w : World) (a : Addr) (m : Mode), (store a sy m).run Tryd.prog w = stored Tryd.prog w a sy m) := by subst hsv9; exact fun w a m => run_store Tryd.prog w a _ m rfl
            have HCY := Lib.hid (show C4 W19 by_ oy (.int .i64 y.1) (.float .f64 y.2.1) (.int .i32 y.2.2.1) (sy) from ⟨d0, d1, d2, d3⟩)
            clear hut hti d0 d1 d2 d3 hsv9 hof
            have NHCYrx := Lib.hid (show by_ ≠ rx by rcases hok with ⟨⟨_, h1⟩, _⟩ | h1 <;> omega)
            clear hrx grx
            have NHCYry := Lib.hid (show by_ ≠ ry by rcases hok with ⟨⟨_, h1⟩, _⟩ | h1 <;> omega)
            clear hry gry
            clear hok
            clear hB
            refine hK.out _ _ ?_ (fun hHeld => ?_)
            · exact ⟨HA.out.2.1, HA.out.2.2.1, HA.out.2.2.2.1, HA2.out.2.1, HA2.out.2.2.1, HA2.out.2.2.2.1, HCX.out.1, HCX.out.2.1, HCX.out.2.2.1, HCX.out.2.2.2⟩
            clear hK K
            refine anyH_str (S' := fun w' => w'.cell? ⟨w.heap.size, 0, none⟩ = some (.slice so p.s.length sc) ∧ w'.cell? ⟨w.heap.size, 1, none⟩ = some (.slice io n ic) ∧ w'.cell? ⟨w.heap.size, 2, none⟩ = some (.int .i64 f) ∧ w'.cell? ⟨w.heap.size + 1, 0, none⟩ = some (.slice qo q.s.length qc) ∧ w'.cell? ⟨w.heap.size + 1, 1, none⟩ = some (.slice jo m jc) ∧ w'.cell? ⟨w.heap.size + 1, 2, none⟩ = some (.int .i64 g) ∧ w'.cell? ⟨bx, ox, none⟩ = some (.int .i64 x.1) ∧ w'.cell? ⟨bx, ox + 1, none⟩ = some (.float .f64 x.2.1) ∧ w'.cell? ⟨bx, ox + 2, none⟩ = some (.int .i32 x.2.2.1) ∧ w'.cell? ⟨bx, ox + 3, none⟩ = some (sx) ∧ w'.cell? ⟨by_, oy, none⟩ = some (.int .i64 y.1) ∧ w'.cell? ⟨by_, oy + 1, none⟩ = some (.float .f64 y.2.1) ∧ w'.cell? ⟨by_, oy + 2, none⟩ = some (.int .i32 y.2.2.1) ∧ w'.cell? ⟨by_, oy + 3, none⟩ = some (sy)) (fun _ h => ⟨h.1, h.2.1, h.2.2.1, h.2.2.2.1, h.2.2.2.2.1, h.2.2.2.2.2.1, h.2.2.2.2.2.2.1, h.2.2.2.2.2.2.2.1, h.2.2.2.2.2.2.2.2.1, h.2.2.2.2.2.2.2.2.2.1⟩) _ _ _ _ ?_
            replace hHeld := (show (fun w' => w'.cell? ⟨w.heap.size, 0, none⟩ = some (.slice so p.s.length sc) ∧ w'.cell? ⟨w.heap.size, 1, none⟩ = some (.slice io n ic) ∧ w'.cell? ⟨w.heap.size, 2, none⟩ = some (.int .i64 f) ∧ w'.cell? ⟨w.heap.size + 1, 0, none⟩ = some (.slice qo q.s.length qc) ∧ w'.cell? ⟨w.heap.size + 1, 1, none⟩ = some (.slice jo m jc) ∧ w'.cell? ⟨w.heap.size + 1, 2, none⟩ = some (.int .i64 g) ∧ w'.cell? ⟨bx, ox, none⟩ = some (.int .i64 x.1) ∧ w'.cell? ⟨bx, ox + 1, none⟩ = some (.float .f64 x.2.1) ∧ w'.cell? ⟨bx, ox + 2, none⟩ = some (.int .i32 x.2.2.1) ∧ w'.cell? ⟨bx, ox + 3, none⟩ = some (sx) ∧ w'.cell? ⟨by_, oy, none⟩ = some (.int .i64 y.1) ∧ w'.cell? ⟨by_, oy + 1, none⟩ = some (.float .f64 y.2.1) ∧ w'.cell? ⟨by_, oy + 2, none⟩ = some (.int .i32 y.2.2.1) ∧ w'.cell? ⟨by_, oy + 3, none⟩ = some (sy)) W19 from ⟨HA.out.2.1, HA.out.2.2.1, HA.out.2.2.2.1, HA2.out.2.1, HA2.out.2.2.1, HA2.out.2.2.2.1, HCX.out.1, HCX.out.2.1, HCX.out.2.2.1, HCX.out.2.2.2, HCY.out.1, HCY.out.2.1, HCY.out.2.2.1, HCY.out.2.2.2⟩)
            refine wpAnyH_take (i := 8) (v := ?_) rfl (by kernel_rfl) (by kernel_rfl) (by kernel_rfl) (fun _ _ _ h => absurd h.1 (by simp)) (Or.inl ⟨by rfl, ?_⟩) (by assumption) ?_
            rotate_left
            · (intro w hSw; (try dsimp only at hSw); go_simp; try with_reducible rfl)
            simp only [Act.put, List.getElem_toArray, List.getElem_cons_succ, List.getElem_cons_zero, List.setIfInBounds_toArray, List.set_cons_zero, List.set_cons_succ]
            refine wpAnyH_take (i := 10) (v := ?_) rfl (by kernel_rfl) (by kernel_rfl) (by kernel_rfl) (fun _ _ _ h => absurd h.1 (by simp)) (Or.inl ⟨by rfl, ?_⟩) (by assumption) ?_
            rotate_left
            · (intro w hSw; (try dsimp only at hSw); go_simp; try with_reducible rfl)
            simp only [Act.put, List.getElem_toArray, List.getElem_cons_succ, List.getElem_cons_zero, List.setIfInBounds_toArray, List.set_cons_zero, List.set_cons_succ]
            refine wpAnyH_take (i := 11) (v := ?_) rfl (by kernel_rfl) (by kernel_rfl) (by kernel_rfl) (fun _ _ _ h => absurd h.1 (by simp)) (Or.inl ⟨by rfl, ?_⟩) (by assumption) ?_
            rotate_left
            · (intro w hSw; (try dsimp only at hSw); go_simp; try with_reducible rfl)
            simp only [Act.put, List.getElem_toArray, List.getElem_cons_succ, List.getElem_cons_zero, List.setIfInBounds_toArray, List.set_cons_zero, List.set_cons_succ]
            refine wpAnyH_ready (rs := [14]) (by kernel_rfl) (by simp) ?_
            refine AllReadyH.cons (o := _) rfl (fun K hK => ?_) ?_
            · clear hHeld
              have s0 := HRX.out.2.1
              have s1 := HRX.out.2.2.1
              have s2 := HRX.out.2.2.2.1
              have s3 := HRX.out.2.2.2.2.1
              have z0 := HRX.out.2.2.2.2.2 0
              have z1 := HRX.out.2.2.2.2.2 1
              have z2 := HRX.out.2.2.2.2.2 2
              have z3 := HRX.out.2.2.2.2.2 3
              go_simp
              clear s0 s1 s2 s3 z0 z1 z2 z3
              obtain ⟨W20, hWn⟩ : ∃ xw9, set4 W19 rx (.int .i64 x.1) (.float .f64 x.2.1) (.int .i32 x.2.2.1) (sx) = xw9 := ⟨_, rfl⟩
              have hWn2 := hWn
              unfold set4 at hWn2
              rw [hWn2]
              clear hWn2
              replace HRX := Lib.hid (show Blk4 W20 rx (.int .i64 x.1) (.float .f64 x.2.1) (.int .i32 x.2.2.1) (sx) by rw [← hWn]; exact HRX.out.put4 _ _ _ _)
              replace HRY := Lib.hid (show Blk4 W20 ry _ _ _ _ by rw [← hWn]; exact HRY.out.far4 HNE.out _ _ _ _)
              replace HW0 := Lib.hid (show Below W14.heap.size W14 W20 by rw [← hWn]; exact below_set4 HW0.out HRXG.out _ _ _ _)
              replace HA := Lib.hid (HAS.out.below HW0.out)
              replace HA2 := Lib.hid (HAS2.out.below HW0.out)
              replace HCX := Lib.hid (show C4 W20 bx ox (.int .i64 x.1) (.float .f64 x.2.1) (.int .i32 x.2.2.1) (sx) by rw [← hWn]; exact HCX.out.far NHCXrx.out _ _ _ _)
              replace HCY := Lib.hid (show C4 W20 by_ oy (.int .i64 y.1) (.float .f64 y.2.1) (.int .i32 y.2.2.1) (sy) by rw [← hWn]; exact HCY.out.far NHCYrx.out _ _ _ _)
              clear hWn
              refine hK.out _ _ ?_ (fun hHeld => ?_)
              · exact ⟨HA.out.2.1, HA.out.2.2.1, HA.out.2.2.2.1, HA2.out.2.1, HA2.out.2.2.1, HA2.out.2.2.2.1, HCX.out.1, HCX.out.2.1, HCX.out.2.2.1, HCX.out.2.2.2, HCY.out.1, HCY.out.2.1, HCY.out.2.2.1, HCY.out.2.2.2⟩
              clear hK K
              refine wpAnyH_ready (rs := [15]) (by kernel_rfl) (by simp) ?_
              refine AllReadyH.cons (o := _) rfl (fun K hK => ?_) ?_
              · clear hHeld
                have s0 := HRY.out.2.1
                have s1 := HRY.out.2.2.1
                have s2 := HRY.out.2.2.2.1
                have s3 := HRY.out.2.2.2.2.1
                have z0 := HRY.out.2.2.2.2.2 0
                have z1 := HRY.out.2.2.2.2.2 1
                have z2 := HRY.out.2.2.2.2.2 2
                have z3 := HRY.out.2.2.2.2.2 3
                go_simp
                clear s0 s1 s2 s3 z0 z1 z2 z3
                obtain ⟨W21, hWn⟩ : ∃ xw9, set4 W20 ry (.int .i64 y.1) (.float .f64 y.2.1) (.int .i32 y.2.2.1) (sy) = xw9 := ⟨_, rfl⟩
                have hWn2 := hWn
                unfold set4 at hWn2
                rw [hWn2]
                clear hWn2
                replace HRY := Lib.hid (show Blk4 W21 ry (.int .i64 y.1) (.float .f64 y.2.1) (.int .i32 y.2.2.1) (sy) by rw [← hWn]; exact HRY.out.put4 _ _ _ _)
                replace HRX := Lib.hid (show Blk4 W21 rx _ _ _ _ by rw [← hWn]; exact HRX.out.far4 (Ne.symm HNE.out) _ _ _ _)
                replace HW0 := Lib.hid (show Below W14.heap.size W14 W21 by rw [← hWn]; exact below_set4 HW0.out HRYG.out _ _ _ _)
                replace HA := Lib.hid (HAS.out.below HW0.out)
                replace HA2 := Lib.hid (HAS2.out.below HW0.out)
                replace HCX := Lib.hid (show C4 W21 bx ox (.int .i64 x.1) (.float .f64 x.2.1) (.int .i32 x.2.2.1) (sx) by rw [← hWn]; exact HCX.out.far NHCXry.out _ _ _ _)
                replace HCY := Lib.hid (show C4 W21 by_ oy (.int .i64 y.1) (.float .f64 y.2.1) (.int .i32 y.2.2.1) (sy) by rw [← hWn]; exact HCY.out.far NHCYry.out _ _ _ _)
                clear hWn
                refine hK.out _ _ ?_ (fun hHeld => ?_)
                · exact ⟨HA.out.2.1, HA.out.2.2.1, HA.out.2.2.2.1, HA2.out.2.1, HA2.out.2.2.1, HA2.out.2.2.2.1, HCX.out.1, HCX.out.2.1, HCX.out.2.2.1, HCX.out.2.2.2, HCY.out.1, HCY.out.2.1, HCY.out.2.2.1, HCY.out.2.2.2⟩
                clear hK K
                refine wpAnyH_done (by kernel_rfl) ?_ _
                clear hHeld
                refine ⟨rfl, .agg #[.slice txo (tidyP 40 p).s.length txc, .slice (some ⟨bx, ox0, none⟩) n txd, .int .i64 (tidyP 40 p).f], .slice (some ⟨bx, ox0, none⟩) n txd, .pointer (some ⟨bx, ox, none⟩), .agg #[.slice tyo (tidyP 40 q).s.length tyc, .slice (some ⟨by_, oy0, none⟩) m tyd, .int .i64 (tidyP 40 q).f], .slice (some ⟨by_, oy0, none⟩) m tyd, .pointer (some ⟨by_, oy, none⟩), sx, sy, rx, ry, ?_, HRX.out, HRY.out, HW0.out⟩
                first | rfl | kernel_rfl
              exact AllReadyH.nil
            exact AllReadyH.nil
          exact AllReadyH.nil
        exact AllReadyH.nil
      refine AllReadyH.cons (o := _) rfl (fun K hK => ?_) ?_
      · clear hHeld
        go_simp
        obtain ⟨W17, hWn⟩ : ∃ xw9, W16.alloc (.cells #[.int .i64 0, .float .f64 0, .int .i32 0, .slice none 0 0] 32) = xw9 := ⟨_, rfl⟩
        have hB : Below W16.heap.size W16 W17 := by rw [← hWn]; exact below_new _ _
        have hNB : Blk4 W17 W16.heap.size (.int .i64 0) (.float .f64 0) (.int .i32 0) (.slice none 0 0) := by rw [← hWn]; exact Blk4.new _ _ _ _ _ _
        have hge : W14.heap.size ≤ W16.heap.size := HW0.out.size
        rw [hWn]
        clear hWn
        obtain ⟨rx, hnm⟩ : ∃ z, W16.heap.size = z := ⟨_, rfl⟩
        
        have HNE := Lib.hid (show ry ≠ rx by have := HRY.out.1; omega)
        rw [hnm] at hNB hge ⊢
        replace HA := Lib.hid (HA.out.below hB)
        replace HA2 := Lib.hid (HA2.out.below hB)
        replace HW0 := Lib.hid (HW0.out.trans (hB.mono HW0.out.size))
        replace HIW := Lib.hid (HIW.out.grow hB)
        replace HIW2 := Lib.hid (HIW2.out.grow hB)
        replace HRY := Lib.hid (HRY.out.below hB)
        have HRX := Lib.hid hNB
        have HRXG := Lib.hid hge
        clear hNB hB hnm hge
        refine hK.out _ _ ?_ (fun hHeld => ?_)
        · exact ⟨HA.out.2.1, HA.out.2.2.1, HA.out.2.2.2.1, HA2.out.2.1, HA2.out.2.2.1, HA2.out.2.2.2.1⟩
        clear hK K
        refine wpAnyH_ready (rs := [1]) (by kernel_rfl) (by simp) ?_
        refine AllReadyH.cons (o := _) rfl (fun K hK => ?_) ?_
        · clear hHeld
          go_simp
          have hrx := HRX.out.1
          have grx := HRXG.out
          have hry := HRY.out.1
          have gry := HRYG.out
          refine (ptidy_calls 40 _ p _ _ HCP.out HIW.out).mono ?_
          rintro e W18 ⟨ut, rfl, hut, hB⟩
          replace HA := Lib.hid (HA.out.below hB)
          replace HA2 := Lib.hid (HA2.out.below hB)
          replace HW0 := Lib.hid (HW0.out.trans (hB.mono HW0.out.size))
          replace HIW := Lib.hid (HIW.out.grow hB)
          replace HIW2 := Lib.hid (HIW2.out.grow hB)
          replace HRY := Lib.hid (HRY.out.below hB)
          replace HRX := Lib.hid (HRX.out.below hB)
          obtain ⟨txo, txc, txi, txd, rfl, _, hti⟩ := hut.opened
          rw [HLT1.out, HN.out] at hti ⊢
          obtain ⟨bx, ox0, q1, q2, he9, hok, d0, d1, d2, d3, _⟩ := hti.at HX.out
          subst he9
          obtain ⟨ox, hof⟩ : ∃ z, ox0 + i * 4 = z := ⟨_, rfl⟩
          have oxE := hof
          rw [hof] at d0 d1 d2 d3
          obtain ⟨sx, hsv9⟩ : ∃ z, Value.slice q1 x.2.2.2.length q2 = z := ⟨_, rfl⟩
          rw [hsv9] at d3
          have hstsx : (∀ (w : World) (a : Addr) (m : Mode), (store a sx m).run Tryd.prog w = stored Tryd.prog w a sx m) := by subst hsv9; exact fun w a m => run_store Tryd.prog w a _ m rfl
          have HCX := Lib.hid (show C4 W18 bx ox (.int .i64 x.1) (.float .f64 x.2.1) (.int .i32 x.2.2.1) (sx) from ⟨d0, d1, d2, d3⟩)
          clear hut hti d0 d1 d2 d3 hsv9 hof
          have NHCXrx := Lib.hid (show bx ≠ rx by rcases hok with ⟨⟨_, h1⟩, _⟩ | h1 <;> omega)
          clear hrx grx
          have NHCXry := Lib.hid (show bx ≠ ry by rcases hok with ⟨⟨_, h1⟩, _⟩ | h1 <;> omega)
          clear hry gry
          clear hok
          clear hB
          refine hK.out _ _ ?_ (fun hHeld => ?_)
          · exact ⟨HA.out.2.1, HA.out.2.2.1, HA.out.2.2.2.1, HA2.out.2.1, HA2.out.2.2.1, HA2.out.2.2.2.1⟩
          clear hK K
          refine anyH_str (S' := fun w' => w'.cell? ⟨w.heap.size, 0, none⟩ = some (.slice so p.s.length sc) ∧ w'.cell? ⟨w.heap.size, 1, none⟩ = some (.slice io n ic) ∧ w'.cell? ⟨w.heap.size, 2, none⟩ = some (.int .i64 f) ∧ w'.cell? ⟨w.heap.size + 1, 0, none⟩ = some (.slice qo q.s.length qc) ∧ w'.cell? ⟨w.heap.size + 1, 1, none⟩ = some (.slice jo m jc) ∧ w'.cell? ⟨w.heap.size + 1, 2, none⟩ = some (.int .i64 g) ∧ w'.cell? ⟨bx, ox, none⟩ = some (.int .i64 x.1) ∧ w'.cell? ⟨bx, ox + 1, none⟩ = some (.float .f64 x.2.1) ∧ w'.cell? ⟨bx, ox + 2, none⟩ = some (.int .i32 x.2.2.1) ∧ w'.cell? ⟨bx, ox + 3, none⟩ = some (sx)) (fun _ h => ⟨h.1, h.2.1, h.2.2.1, h.2.2.2.1, h.2.2.2.2.1, h.2.2.2.2.2.1⟩) _ _ _ _ ?_
          replace hHeld := (show (fun w' => w'.cell? ⟨w.heap.size, 0, none⟩ = some (.slice so p.s.length sc) ∧ w'.cell? ⟨w.heap.size, 1, none⟩ = some (.slice io n ic) ∧ w'.cell? ⟨w.heap.size, 2, none⟩ = some (.int .i64 f) ∧ w'.cell? ⟨w.heap.size + 1, 0, none⟩ = some (.slice qo q.s.length qc) ∧ w'.cell? ⟨w.heap.size + 1, 1, none⟩ = some (.slice jo m jc) ∧ w'.cell? ⟨w.heap.size + 1, 2, none⟩ = some (.int .i64 g) ∧ w'.cell? ⟨bx, ox, none⟩ = some (.int .i64 x.1) ∧ w'.cell? ⟨bx, ox + 1, none⟩ = some (.float .f64 x.2.1) ∧ w'.cell? ⟨bx, ox + 2, none⟩ = some (.int .i32 x.2.2.1) ∧ w'.cell? ⟨bx, ox + 3, none⟩ = some (sx)) W18 from ⟨HA.out.2.1, HA.out.2.2.1, HA.out.2.2.2.1, HA2.out.2.1, HA2.out.2.2.1, HA2.out.2.2.2.1, HCX.out.1, HCX.out.2.1, HCX.out.2.2.1, HCX.out.2.2.2⟩)
          refine wpAnyH_take (i := 2) (v := ?_) rfl (by kernel_rfl) (by kernel_rfl) (by kernel_rfl) (fun _ _ _ h => absurd h.1 (by simp)) (Or.inl ⟨by rfl, ?_⟩) (by assumption) ?_
          rotate_left
          · (intro w hSw; (try dsimp only at hSw); go_simp; try with_reducible rfl)
          simp only [Act.put, List.getElem_toArray, List.getElem_cons_succ, List.getElem_cons_zero, List.setIfInBounds_toArray, List.set_cons_zero, List.set_cons_succ]
          refine wpAnyH_take (i := 4) (v := ?_) rfl (by kernel_rfl) (by kernel_rfl) (by kernel_rfl) (fun _ _ _ h => absurd h.1 (by simp)) (Or.inl ⟨by rfl, ?_⟩) (by assumption) ?_
          rotate_left
          · (intro w hSw; (try dsimp only at hSw); go_simp; try with_reducible rfl)
          simp only [Act.put, List.getElem_toArray, List.getElem_cons_succ, List.getElem_cons_zero, List.setIfInBounds_toArray, List.set_cons_zero, List.set_cons_succ]
          refine wpAnyH_take (i := 5) (v := ?_) rfl (by kernel_rfl) (by kernel_rfl) (by kernel_rfl) (fun _ _ _ h => absurd h.1 (by simp)) (Or.inl ⟨by rfl, ?_⟩) (by assumption) ?_
          rotate_left
          · (intro w hSw; (try dsimp only at hSw); go_simp; try with_reducible rfl)
          simp only [Act.put, List.getElem_toArray, List.getElem_cons_succ, List.getElem_cons_zero, List.setIfInBounds_toArray, List.set_cons_zero, List.set_cons_succ]
          refine wpAnyH_ready (rs := [7]) (by kernel_rfl) (by simp) ?_
          refine AllReadyH.cons (o := _) rfl (fun K hK => ?_) ?_
          · clear hHeld
            go_simp
            have hrx := HRX.out.1
            have grx := HRXG.out
            have hry := HRY.out.1
            have gry := HRYG.out
            refine (ptidy_calls 40 _ q _ _ HCQ.out HIW2.out).mono ?_
            rintro e W19 ⟨ut, rfl, hut, hB⟩
            replace HA := Lib.hid (HA.out.below hB)
            replace HA2 := Lib.hid (HA2.out.below hB)
            replace HW0 := Lib.hid (HW0.out.trans (hB.mono HW0.out.size))
            replace HIW := Lib.hid (HIW.out.grow hB)
            replace HIW2 := Lib.hid (HIW2.out.grow hB)
            replace HRY := Lib.hid (HRY.out.below hB)
            replace HRX := Lib.hid (HRX.out.below hB)
            replace HCX := Lib.hid (HCX.out.below hB)
            obtain ⟨tyo, tyc, tyi, tyd, rfl, _, hti⟩ := hut.opened
            rw [HLT2.out, HM.out] at hti ⊢
            obtain ⟨by_, oy0, q1, q2, he9, hok, d0, d1, d2, d3, _⟩ := hti.at HY.out
            subst he9
            obtain ⟨oy, hof⟩ : ∃ z, oy0 + k * 4 = z := ⟨_, rfl⟩
            have oyE := hof
            rw [hof] at d0 d1 d2 d3
            obtain ⟨sy, hsv9⟩ : ∃ z, Value.slice q1 y.2.2.2.length q2 = z := ⟨_, rfl⟩
            rw [hsv9] at d3
            have hstsy : (∀ (w : World) (a : Addr) (m : Mode), (store a sy m).run Tryd.prog w = stored Tryd.prog w a sy m) := by subst hsv9; exact fun w a m => run_store Tryd.prog w a _ m rfl
            have HCY := Lib.hid (show C4 W19 by_ oy (.int .i64 y.1) (.float .f64 y.2.1) (.int .i32 y.2.2.1) (sy) from ⟨d0, d1, d2, d3⟩)
            clear hut hti d0 d1 d2 d3 hsv9 hof
            have NHCYrx := Lib.hid (show by_ ≠ rx by rcases hok with ⟨⟨_, h1⟩, _⟩ | h1 <;> omega)
            clear hrx grx
            have NHCYry := Lib.hid (show by_ ≠ ry by rcases hok with ⟨⟨_, h1⟩, _⟩ | h1 <;> omega)
            clear hry gry
            clear hok
            clear hB
            refine hK.out _ _ ?_ (fun hHeld => ?_)
            · exact ⟨HA.out.2.1, HA.out.2.2.1, HA.out.2.2.2.1, HA2.out.2.1, HA2.out.2.2.1, HA2.out.2.2.2.1, HCX.out.1, HCX.out.2.1, HCX.out.2.2.1, HCX.out.2.2.2⟩
            clear hK K
            refine anyH_str (S' := fun w' => w'.cell? ⟨w.heap.size, 0, none⟩ = some (.slice so p.s.length sc) ∧ w'.cell? ⟨w.heap.size, 1, none⟩ = some (.slice io n ic) ∧ w'.cell? ⟨w.heap.size, 2, none⟩ = some (.int .i64 f) ∧ w'.cell? ⟨w.heap.size + 1, 0, none⟩ = some (.slice qo q.s.length qc) ∧ w'.cell? ⟨w.heap.size + 1, 1, none⟩ = some (.slice jo m jc) ∧ w'.cell? ⟨w.heap.size + 1, 2, none⟩ = some (.int .i64 g) ∧ w'.cell? ⟨bx, ox, none⟩ = some (.int .i64 x.1) ∧ w'.cell? ⟨bx, ox + 1, none⟩ = some (.float .f64 x.2.1) ∧ w'.cell? ⟨bx, ox + 2, none⟩ = some (.int .i32 x.2.2.1) ∧ w'.cell? ⟨bx, ox + 3, none⟩ = some (sx) ∧ w'.cell? ⟨by_, oy, none⟩ = some (.int .i64 y.1) ∧ w'.cell? ⟨by_, oy + 1, none⟩ = some (.float .f64 y.2.1) ∧ w'.cell? ⟨by_, oy + 2, none⟩ = some (.int .i32 y.2.2.1) ∧ w'.cell? ⟨by_, oy + 3, none⟩ = some (sy)) (fun _ h => ⟨h.1, h.2.1, h.2.2.1, h.2.2.2.1, h.2.2.2.2.1, h.2.2.2.2.2.1, h.2.2.2.2.2.2.1, h.2.2.2.2.2.2.2.1, h.2.2.2.2.2.2.2.2.1, h.2.2.2.2.2.2.2.2.2.1⟩) _ _ _ _ ?_
            replace hHeld := (show (fun w' => w'.cell? ⟨w.heap.size, 0, none⟩ = some (.slice so p.s.length sc) ∧ w'.cell? ⟨w.heap.size, 1, none⟩ = some (.slice io n ic) ∧ w'.cell? ⟨w.heap.size, 2, none⟩ = some (.int .i64 f) ∧ w'.cell? ⟨w.heap.size + 1, 0, none⟩ = some (.slice qo q.s.length qc) ∧ w'.cell? ⟨w.heap.size + 1, 1, none⟩ = some (.slice jo m jc) ∧ w'.cell? ⟨w.heap.size + 1, 2, none⟩ = some (.int .i64 g) ∧ w'.cell? ⟨bx, ox, none⟩ = some (.int .i64 x.1) ∧ w'.cell? ⟨bx, ox + 1, none⟩ = some (.float .f64 x.2.1) ∧ w'.cell? ⟨bx, ox + 2, none⟩ = some (.int .i32 x.2.2.1) ∧ w'.cell? ⟨bx, ox + 3, none⟩ = some (sx) ∧ w'.cell? ⟨by_, oy, none⟩ = some (.int .i64 y.1) ∧ w'.cell? ⟨by_, oy + 1, none⟩ = some (.float .f64 y.2.1) ∧ w'.cell? ⟨by_, oy + 2, none⟩ = some (.int .i32 y.2.2.1) ∧ w'.cell? ⟨by_, oy + 3, none⟩ = some (sy)) W19 from ⟨HA.out.2.1, HA.out.2.2.1, HA.out.2.2.2.1, HA2.out.2.1, HA2.out.2.2.1, HA2.out.2.2.2.1, HCX.out.1, HCX.out.2.1, HCX.out.2.2.1, HCX.out.2.2.2, HCY.out.1, HCY.out.2.1, HCY.out.2.2.1, HCY.out.2.2.2⟩)
            refine wpAnyH_take (i := 8) (v := ?_) rfl (by kernel_rfl) (by kernel_rfl) (by kernel_rfl) (fun _ _ _ h => absurd h.1 (by simp)) (Or.inl ⟨by rfl, ?_⟩) (by assumption) ?_
            rotate_left
            · (intro w hSw; (try dsimp only at hSw); go_simp; try with_reducible rfl)
            simp only [Act.put, List.getElem_toArray, List.getElem_cons_succ, List.getElem_cons_zero, List.setIfInBounds_toArray, List.set_cons_zero, List.set_cons_succ]
            refine wpAnyH_take (i := 10) (v := ?_) rfl (by kernel_rfl) (by kernel_rfl) (by kernel_rfl) (fun _ _ _ h => absurd h.1 (by simp)) (Or.inl ⟨by rfl, ?_⟩) (by assumption) ?_
            rotate_left
            · (intro w hSw; (try dsimp only at hSw); go_simp; try with_reducible rfl)
            simp only [Act.put, List.getElem_toArray, List.getElem_cons_succ, List.getElem_cons_zero, List.setIfInBounds_toArray, List.set_cons_zero, List.set_cons_succ]
            refine wpAnyH_take (i := 11) (v := ?_) rfl (by kernel_rfl) (by kernel_rfl) (by kernel_rfl) (fun _ _ _ h => absurd h.1 (by simp)) (Or.inl ⟨by rfl, ?_⟩) (by assumption) ?_
            rotate_left
            · (intro w hSw; (try dsimp only at hSw); go_simp; try with_reducible rfl)
            simp only [Act.put, List.getElem_toArray, List.getElem_cons_succ, List.getElem_cons_zero, List.setIfInBounds_toArray, List.set_cons_zero, List.set_cons_succ]
            refine wpAnyH_ready (rs := [14]) (by kernel_rfl) (by simp) ?_
            refine AllReadyH.cons (o := _) rfl (fun K hK => ?_) ?_
            · clear hHeld
              have s0 := HRX.out.2.1
              have s1 := HRX.out.2.2.1
              have s2 := HRX.out.2.2.2.1
              have s3 := HRX.out.2.2.2.2.1
              have z0 := HRX.out.2.2.2.2.2 0
              have z1 := HRX.out.2.2.2.2.2 1
              have z2 := HRX.out.2.2.2.2.2 2
              have z3 := HRX.out.2.2.2.2.2 3
              go_simp
              clear s0 s1 s2 s3 z0 z1 z2 z3
              obtain ⟨W20, hWn⟩ : ∃ xw9, set4 W19 rx (.int .i64 x.1) (.float .f64 x.2.1) (.int .i32 x.2.2.1) (sx) = xw9 := ⟨_, rfl⟩
              have hWn2 := hWn
              unfold set4 at hWn2
              rw [hWn2]
              clear hWn2
              replace HRX := Lib.hid (show Blk4 W20 rx (.int .i64 x.1) (.float .f64 x.2.1) (.int .i32 x.2.2.1) (sx) by rw [← hWn]; exact HRX.out.put4 _ _ _ _)
              replace HRY := Lib.hid (show Blk4 W20 ry _ _ _ _ by rw [← hWn]; exact HRY.out.far4 HNE.out _ _ _ _)
              replace HW0 := Lib.hid (show Below W14.heap.size W14 W20 by rw [← hWn]; exact below_set4 HW0.out HRXG.out _ _ _ _)
              replace HA := Lib.hid (HAS.out.below HW0.out)
              replace HA2 := Lib.hid (HAS2.out.below HW0.out)
              replace HCX := Lib.hid (show C4 W20 bx ox (.int .i64 x.1) (.float .f64 x.2.1) (.int .i32 x.2.2.1) (sx) by rw [← hWn]; exact HCX.out.far NHCXrx.out _ _ _ _)
              replace HCY := Lib.hid (show C4 W20 by_ oy (.int .i64 y.1) (.float .f64 y.2.1) (.int .i32 y.2.2.1) (sy) by rw [← hWn]; exact HCY.out.far NHCYrx.out _ _ _ _)
              clear hWn
              refine hK.out _ _ ?_ (fun hHeld => ?_)
              · exact ⟨HA.out.2.1, HA.out.2.2.1, HA.out.2.2.2.1, HA2.out.2.1, HA2.out.2.2.1, HA2.out.2.2.2.1, HCX.out.1, HCX.out.2.1, HCX.out.2.2.1, HCX.out.2.2.2, HCY.out.1, HCY.out.2.1, HCY.out.2.2.1, HCY.out.2.2.2⟩
              clear hK K
              refine wpAnyH_ready (rs := [15]) (by kernel_rfl) (by simp) ?_
              refine AllReadyH.cons (o := _) rfl (fun K hK => ?_) ?_
              · clear hHeld
                have s0 := HRY.out.2.1
                have s1 := HRY.out.2.2.1
                have s2 := HRY.out.2.2.2.1
                have s3 := HRY.out.2.2.2.2.1
                have z0 := HRY.out.2.2.2.2.2 0
                have z1 := HRY.out.2.2.2.2.2 1
                have z2 := HRY.out.2.2.2.2.2 2
                have z3 := HRY.out.2.2.2.2.2 3
                go_simp
                clear s0 s1 s2 s3 z0 z1 z2 z3
                obtain ⟨W21, hWn⟩ : ∃ xw9, set4 W20 ry (.int .i64 y.1) (.float .f64 y.2.1) (.int .i32 y.2.2.1) (sy) = xw9 := ⟨_, rfl⟩
                have hWn2 := hWn
                unfold set4 at hWn2
                rw [hWn2]
                clear hWn2
                replace HRY := Lib.hid (show Blk4 W21 ry (.int .i64 y.1) (.float .f64 y.2.1) (.int .i32 y.2.2.1) (sy) by rw [← hWn]; exact HRY.out.put4 _ _ _ _)
                replace HRX := Lib.hid (show Blk4 W21 rx _ _ _ _ by rw [← hWn]; exact HRX.out.far4 (Ne.symm HNE.out) _ _ _ _)
                replace HW0 := Lib.hid (show Below W14.heap.size W14 W21 by rw [← hWn]; exact below_set4 HW0.out HRYG.out _ _ _ _)
                replace HA := Lib.hid (HAS.out.below HW0.out)
                replace HA2 := Lib.hid (HAS2.out.below HW0.out)
                replace HCX := Lib.hid (show C4 W21 bx ox (.int .i64 x.1) (.float .f64 x.2.1) (.int .i32 x.2.2.1) (sx) by rw [← hWn]; exact HCX.out.far NHCXry.out _ _ _ _)
                replace HCY := Lib.hid (show C4 W21 by_ oy (.int .i64 y.1) (.float .f64 y.2.1) (.int .i32 y.2.2.1) (sy) by rw [← hWn]; exact HCY.out.far NHCYry.out _ _ _ _)
                clear hWn
                refine hK.out _ _ ?_ (fun hHeld => ?_)
                · exact ⟨HA.out.2.1, HA.out.2.2.1, HA.out.2.2.2.1, HA2.out.2.1, HA2.out.2.2.1, HA2.out.2.2.2.1, HCX.out.1, HCX.out.2.1, HCX.out.2.2.1, HCX.out.2.2.2, HCY.out.1, HCY.out.2.1, HCY.out.2.2.1, HCY.out.2.2.2⟩
                clear hK K
                refine wpAnyH_done (by kernel_rfl) ?_ _
                clear hHeld
                refine ⟨rfl, .agg #[.slice txo (tidyP 40 p).s.length txc, .slice (some ⟨bx, ox0, none⟩) n txd, .int .i64 (tidyP 40 p).f], .slice (some ⟨bx, ox0, none⟩) n txd, .pointer (some ⟨bx, ox, none⟩), .agg #[.slice tyo (tidyP 40 q).s.length tyc, .slice (some ⟨by_, oy0, none⟩) m tyd, .int .i64 (tidyP 40 q).f], .slice (some ⟨by_, oy0, none⟩) m tyd, .pointer (some ⟨by_, oy, none⟩), sx, sy, rx, ry, ?_, HRX.out, HRY.out, HW0.out⟩
                first | rfl | kernel_rfl
              exact AllReadyH.nil
            exact AllReadyH.nil
          exact AllReadyH.nil
        exact AllReadyH.nil
      exact AllReadyH.nil
    exact AllReadyH.nil
  rintro _ wm ⟨e1, e2, e3, e4, e5, e6, sx, sy, rx, ry, rfl, hrx, hry, hB⟩
  have HRX := Lib.hid hrx
  have HRY := Lib.hid hry
  clear hrx hry
  replace HA := Lib.hid (HA.out.below hB)
  replace HA2 := Lib.hid (HA2.out.below hB)
  replace HB := Lib.hid (HB.out.trans (hB.mono HB.out.size))
  replace HI := Lib.hid (HI.out.grow hB)
  replace HI2 := Lib.hid (HI2.out.grow hB)
  replace HT := Lib.hid (fun j hj => keep_below hB _ _ (HT.out j hj))
  clear hB
  simp only [Act.put, List.setIfInBounds_toArray, List.set_cons_zero, List.set_cons_succ]
  obtain ⟨A, hA⟩ : ∃ A, (arrP 40 p).2 = A := ⟨_, rfl⟩
  obtain ⟨B, hB9⟩ : ∃ B, (arrP 40 q).2 = B := ⟨_, rfl⟩
  obtain ⟨v1, v2, v3, v4, _, _⟩ := good_vec HCP.out
  obtain ⟨u1, u2, u3, u4, _, _⟩ := good_vec HCQ.out
  have hix := its_arrP (d := 39) HCP.out
  have hiy := its_arrP (d := 39) HCQ.out
  rw [hA] at v1 v2 v3 hix
  rw [hB9] at u1 u2 u3 hiy
  rw [HF.out] at v1
  rw [HG.out] at u1
  rw [HN.out] at v2
  rw [HM.out] at u2
  have HAA := Lib.hid hA
  have HBB := Lib.hid hB9
  have HAC := Lib.hid v1
  have HBC := Lib.hid u1
  have HAF := Lib.hid v3
  have HBF := Lib.hid u3
  have HIA := Lib.hid (show i < A.len by rw [v2]; exact hin)
  have HKB := Lib.hid (show k < B.len by rw [u2]; exact hkm)
  have HKX := Lib.hid (show A.cls < 2 → x.1 = A.cls ∧ (x.1 = 0 → Fnt x.2.1) ∧ keyP x = keyV A i from fun h => its_key (d := 39) h v3 (by rw [hix]; exact HX.out))
  have HKY := Lib.hid (show B.cls < 2 → y.1 = B.cls ∧ (y.1 = 0 → Fnt y.2.1) ∧ keyP y = keyV B k from fun h => its_key (d := 39) h u3 (by rw [hiy]; exact HY.out))
  have HF3 := Lib.hid (show f = 0 ∨ f = 1 ∨ f = 2 by rw [← v1]; exact VV.cls_cases _)
  obtain ⟨C, hC⟩ : ∃ C, orC A i B k = C := ⟨_, rfl⟩
  obtain ⟨O, hO⟩ : ∃ O, orB A B = O := ⟨_, rfl⟩
  have HC := Lib.hid hC
  have HO := Lib.hid hO
  have hfa := fld_arr16
  clear hA hB9 v1 v2 v3 v4 u1 u2 u3 u4 hC hO hix hiy
  have cHA0 := HA.out.2.1
  have cHA1 := HA.out.2.2.1
  have cHA2 := HA.out.2.2.2.1
  have cHA20 := HA2.out.2.1
  have cHA21 := HA2.out.2.2.1
  have cHA22 := HA2.out.2.2.2.1
  have cHRX0 := HRX.out.2.1
  have cHRX1 := HRX.out.2.2.1
  have cHRX2 := HRX.out.2.2.2.1
  have cHRX3 := HRX.out.2.2.2.2.1
  have cHRY0 := HRY.out.2.1
  have cHRY1 := HRY.out.2.2.1
  have cHRY2 := HRY.out.2.2.2.1
  have cHRY3 := HRY.out.2.2.2.2.1
  go_wp2_with fail
  obtain ⟨W15, hWD⟩ : ∃ xw9, wm.drew = xw9 := ⟨_, rfl⟩
  have hB : Below wm.heap.size wm W15 := by rw [← hWD]; exact Below.drewN' (Below.refl _ _) 1
  clear cHA0 cHA1 cHA2 cHA20 cHA21 cHA22 cHRX0 cHRX1 cHRX2 cHRX3 cHRY0 cHRY1 cHRY2 cHRY3
  replace HA := Lib.hid (HA.out.below hB)
  replace HA2 := Lib.hid (HA2.out.below hB)
  replace HB := Lib.hid (HB.out.trans (hB.mono HB.out.size))
  replace HI := Lib.hid (HI.out.grow hB)
  replace HI2 := Lib.hid (HI2.out.grow hB)
  replace HT := Lib.hid (fun j hj => keep_below hB _ _ (HT.out j hj))
  replace HRX := Lib.hid (HRX.out.below hB)
  replace HRY := Lib.hid (HRY.out.below hB)
  clear hB
  refine wp_region_held_drew (S := fun w' => w'.cell? ⟨w.heap.size, 0, none⟩ = some (.slice so p.s.length sc) ∧ w'.cell? ⟨w.heap.size, 1, none⟩ = some (.slice io n ic) ∧ w'.cell? ⟨w.heap.size, 2, none⟩ = some (.int .i64 f) ∧ w'.cell? ⟨w.heap.size + 1, 0, none⟩ = some (.slice qo q.s.length qc) ∧ w'.cell? ⟨w.heap.size + 1, 1, none⟩ = some (.slice jo m jc) ∧ w'.cell? ⟨w.heap.size + 1, 2, none⟩ = some (.int .i64 g)) (by kernel_rfl) (by rw [hWD]; exact ⟨HA.out.2.1, HA.out.2.2.1, HA.out.2.2.2.1, HA2.out.2.1, HA2.out.2.2.1, HA2.out.2.2.2.1⟩) (fun hHeld => ?_)
  rw [hWD] at hHeld ⊢
  clear hWD
  refine wpAnyH_take (i := 0) (v := ?_) rfl (by kernel_rfl) (by kernel_rfl) (by kernel_rfl) (fun _ _ _ h => h) (Or.inl ⟨by rfl, ?_⟩) (by assumption) ?_
  rotate_left
  · (intro w hSw; (try dsimp only at hSw); go_simp; try with_reducible rfl)
  simp only [Act.put, List.getElem_toArray, List.getElem_cons_zero, List.setIfInBounds_toArray, List.set_cons_zero, List.set_cons_succ]
  refine wpAnyH_take (i := 3) (v := ?_) rfl (by kernel_rfl) (by kernel_rfl) (by kernel_rfl) (fun _ _ _ h => h) (Or.inl ⟨by rfl, ?_⟩) (by assumption) ?_
  rotate_left
  · (intro w hSw; (try dsimp only at hSw); go_simp; try with_reducible rfl)
  simp only [Act.put, List.getElem_toArray, List.getElem_cons_succ, List.getElem_cons_zero, List.setIfInBounds_toArray, List.set_cons_zero, List.set_cons_succ]
  refine wpAnyH_take (i := 4) (v := ?_) rfl (by kernel_rfl) (by kernel_rfl) (by kernel_rfl) (fun _ _ _ h => h) (Or.inl ⟨by rfl, ?_⟩) (by assumption) ?_
  rotate_left
  · (intro w hSw; (try dsimp only at hSw); go_simp; try with_reducible rfl)
  simp only [Act.put, List.getElem_toArray, List.getElem_cons_succ, List.getElem_cons_zero, List.setIfInBounds_toArray, List.set_cons_zero, List.set_cons_succ]
  refine wpAnyH_take (i := 7) (v := ?_) rfl (by kernel_rfl) (by kernel_rfl) (by kernel_rfl) (fun _ _ _ h => h) (Or.inl ⟨by rfl, ?_⟩) (by assumption) ?_
  rotate_left
  · (intro w hSw; (try dsimp only at hSw); go_simp; try with_reducible rfl)
  simp only [Act.put, List.getElem_toArray, List.getElem_cons_succ, List.getElem_cons_zero, List.setIfInBounds_toArray, List.set_cons_zero, List.set_cons_succ]
  refine wpAnyH_ready (rs := [1]) (by kernel_rfl) (by simp) ?_
  refine AllReadyH.cons (o := _) rfl (fun K hK => ?_) AllReadyH.nil
  clear hHeld
  go_simp
  go_simp
  refine (lof_calls _ p _ nd _ HLO.out HI.out HT.out HCP.out).mono ?_
  rintro e W16 ⟨so3, sc3, uo, rfl, hOR, hB⟩
  replace HA := Lib.hid (HA.out.below hB)
  replace HA2 := Lib.hid (HA2.out.below hB)
  replace HB := Lib.hid (HB.out.trans (hB.mono HB.out.size))
  replace HI := Lib.hid (HI.out.grow hB)
  replace HI2 := Lib.hid (HI2.out.grow hB)
  replace HT := Lib.hid (fun j hj => keep_below hB _ _ (HT.out j hj))
  replace HRX := Lib.hid (HRX.out.below hB)
  replace HRY := Lib.hid (HRY.out.below hB)
  have HUO := Lib.hid (show IsV W16 (fun _ => True) uo A by rw [← HAA.out]; exact IsV.any hOR.2)
  clear hOR
  clear hB
  try go_simp
  refine hK.out _ _ ?_ (fun hHeld => ?_)
  · exact ⟨HA.out.2.1, HA.out.2.2.1, HA.out.2.2.2.1, HA2.out.2.1, HA2.out.2.2.1, HA2.out.2.2.2.1⟩
  clear hK K
  refine wpAnyH_take (i := 2) (v := ?_) rfl (by kernel_rfl) (by kernel_rfl) (by kernel_rfl) (fun _ _ _ h => h) (Or.inl ⟨by rfl, ?_⟩) (by assumption) ?_
  rotate_left
  · (intro w hSw; (try dsimp only at hSw); go_simp; try with_reducible rfl)
  simp only [Act.put, List.getElem_toArray, List.getElem_cons_succ, List.getElem_cons_zero, List.setIfInBounds_toArray, List.set_cons_zero, List.set_cons_succ]
  refine wpAnyH_ready (rs := [5]) (by kernel_rfl) (by simp) ?_
  refine AllReadyH.cons (o := _) rfl (fun K hK => ?_) AllReadyH.nil
  clear hHeld
  go_simp
  go_simp
  refine (lof_calls _ q _ md _ HLP.out HI2.out HT.out HCQ.out).mono ?_
  rintro e W17 ⟨so4, sc4, vo, rfl, hOR, hB⟩
  replace HA := Lib.hid (HA.out.below hB)
  replace HA2 := Lib.hid (HA2.out.below hB)
  replace HB := Lib.hid (HB.out.trans (hB.mono HB.out.size))
  replace HI := Lib.hid (HI.out.grow hB)
  replace HI2 := Lib.hid (HI2.out.grow hB)
  replace HT := Lib.hid (fun j hj => keep_below hB _ _ (HT.out j hj))
  replace HRX := Lib.hid (HRX.out.below hB)
  replace HRY := Lib.hid (HRY.out.below hB)
  replace HUO := Lib.hid (HUO.out.grow hB)
  have HVO := Lib.hid (show IsV W17 (fun _ => True) vo B by rw [← HBB.out]; exact IsV.any hOR.2)
  clear hOR
  clear hB
  try go_simp
  refine hK.out _ _ ?_ (fun hHeld => ?_)
  · exact ⟨HA.out.2.1, HA.out.2.2.1, HA.out.2.2.2.1, HA2.out.2.1, HA2.out.2.2.1, HA2.out.2.2.2.1⟩
  clear hK K
  refine wpAnyH_take (i := 6) (v := ?_) rfl (by kernel_rfl) (by kernel_rfl) (by kernel_rfl) (fun _ _ _ h => h) (Or.inl ⟨by rfl, ?_⟩) (by assumption) ?_
  rotate_left
  · (intro w hSw; (try dsimp only at hSw); go_simp; try with_reducible rfl)
  simp only [Act.put, List.getElem_toArray, List.getElem_cons_succ, List.getElem_cons_zero, List.setIfInBounds_toArray, List.set_cons_zero, List.set_cons_succ]
  refine wpAnyH_ready (rs := [8]) (by kernel_rfl) (by simp) ?_
  refine AllReadyH.cons (o := _) rfl (fun K hK => ?_) AllReadyH.nil
  clear hHeld
  go_simp
  go_simp
  refine (ocompare_calls _ _ A B i k _ HUO.out HVO.out HAF.out HBF.out HIA.out HKB.out).mono ?_
  rintro e W18 ⟨rfl, hB⟩
  replace HA := Lib.hid (HA.out.below hB)
  replace HA2 := Lib.hid (HA2.out.below hB)
  replace HB := Lib.hid (HB.out.trans (hB.mono HB.out.size))
  replace HI := Lib.hid (HI.out.grow hB)
  replace HI2 := Lib.hid (HI2.out.grow hB)
  replace HT := Lib.hid (fun j hj => keep_below hB _ _ (HT.out j hj))
  replace HRX := Lib.hid (HRX.out.below hB)
  replace HRY := Lib.hid (HRY.out.below hB)
  replace HUO := Lib.hid (HUO.out.grow hB)
  replace HVO := Lib.hid (HVO.out.grow hB)
  rw [HC.out, HO.out]
  clear hB
  try go_simp
  refine hK.out _ _ ?_ (fun hHeld => ?_)
  · exact ⟨HA.out.2.1, HA.out.2.2.1, HA.out.2.2.2.1, HA2.out.2.1, HA2.out.2.2.1, HA2.out.2.2.2.1⟩
  clear hK K
  refine wpAnyH_take (i := 9) (v := ?_) rfl (by kernel_rfl) (by kernel_rfl) (by kernel_rfl) (fun _ _ _ h => h) (Or.inl ⟨by rfl, ?_⟩) (by assumption) ?_
  rotate_left
  · (intro w hSw; (try dsimp only at hSw); go_simp; try with_reducible rfl)
  simp only [Act.put, List.getElem_toArray, List.getElem_cons_succ, List.getElem_cons_zero, List.setIfInBounds_toArray, List.set_cons_zero, List.set_cons_succ]
  refine wpAnyH_take (i := 10) (v := ?_) rfl (by kernel_rfl) (by kernel_rfl) (by kernel_rfl) (fun _ _ _ h => h) (Or.inl ⟨by rfl, ?_⟩) (by assumption) ?_
  rotate_left
  · (intro w hSw; (try dsimp only at hSw); go_simp; try with_reducible rfl)
  simp only [Act.put, List.getElem_toArray, List.getElem_cons_succ, List.getElem_cons_zero, List.setIfInBounds_toArray, List.set_cons_zero, List.set_cons_succ]
  refine wpAnyH_take (i := 11) (v := ?_) rfl (by kernel_rfl) (by kernel_rfl) (by kernel_rfl) (fun _ _ _ h => h) (Or.inl ⟨by rfl, ?_⟩) (by assumption) ?_
  rotate_left
  · (intro w hSw; (try dsimp only at hSw); go_simp; try with_reducible rfl)
  simp only [Act.put, List.getElem_toArray, List.getElem_cons_succ, List.getElem_cons_zero, List.setIfInBounds_toArray, List.set_cons_zero, List.set_cons_succ]
  refine wpAnyH_take (i := 12) (v := ?_) rfl (by kernel_rfl) (by kernel_rfl) (by kernel_rfl) (fun _ _ _ h => h) (Or.inl ⟨by rfl, ?_⟩) (by assumption) ?_
  rotate_left
  · (intro w hSw; (try dsimp only at hSw); go_simp; try with_reducible rfl)
  simp only [Act.put, List.getElem_toArray, List.getElem_cons_succ, List.getElem_cons_zero, List.setIfInBounds_toArray, List.set_cons_zero, List.set_cons_succ]
  refine wpAnyH_take (i := 13) (v := ?_) rfl (by kernel_rfl) (by kernel_rfl) (by kernel_rfl) (fun _ _ _ h => h) (Or.inl ⟨by rfl, ?_⟩) (by assumption) ?_
  rotate_left
  · (intro w hSw; (try dsimp only at hSw); go_simp; try with_reducible rfl)
  simp only [Act.put, List.getElem_toArray, List.getElem_cons_succ, List.getElem_cons_zero, List.setIfInBounds_toArray, List.set_cons_zero, List.set_cons_succ]
  refine wpAnyH_done (by kernel_rfl) ?_ _
  clear hHeld
  rcases HF3.out with rfl | rfl | rfl
  · have cHA0 := HA.out.2.1
    have cHA1 := HA.out.2.2.1
    have cHA2 := HA.out.2.2.2.1
    have cHA20 := HA2.out.2.1
    have cHA21 := HA2.out.2.2.1
    have cHA22 := HA2.out.2.2.2.1
    have cHRX0 := HRX.out.2.1
    have cHRX1 := HRX.out.2.2.1
    have cHRX2 := HRX.out.2.2.2.1
    have cHRX3 := HRX.out.2.2.2.2.1
    have cHRY0 := HRY.out.2.1
    have cHRY1 := HRY.out.2.2.1
    have cHRY2 := HRY.out.2.2.2.1
    have cHRY3 := HRY.out.2.2.2.2.1
    go_wp2_with fail
    obtain ⟨W19, hWD⟩ : ∃ xw9, W18.drew = xw9 := ⟨_, rfl⟩
    have hB : Below W18.heap.size W18 W19 := by rw [← hWD]; exact Below.drewN' (Below.refl _ _) 1
    clear cHA0 cHA1 cHA2 cHA20 cHA21 cHA22 cHRX0 cHRX1 cHRX2 cHRX3 cHRY0 cHRY1 cHRY2 cHRY3
    replace HA := Lib.hid (HA.out.below hB)
    replace HA2 := Lib.hid (HA2.out.below hB)
    replace HB := Lib.hid (HB.out.trans (hB.mono HB.out.size))
    replace HI := Lib.hid (HI.out.grow hB)
    replace HI2 := Lib.hid (HI2.out.grow hB)
    replace HT := Lib.hid (fun j hj => keep_below hB _ _ (HT.out j hj))
    replace HRX := Lib.hid (HRX.out.below hB)
    replace HRY := Lib.hid (HRY.out.below hB)
    replace HUO := Lib.hid (HUO.out.grow hB)
    replace HVO := Lib.hid (HVO.out.grow hB)
    clear hB
    refine wp_region_held_drew (S := fun w' => w'.cell? ⟨w.heap.size, 0, none⟩ = some (.slice so p.s.length sc) ∧ w'.cell? ⟨w.heap.size, 1, none⟩ = some (.slice io n ic) ∧ w'.cell? ⟨w.heap.size, 2, none⟩ = some (.int .i64 0)) (by kernel_rfl) (by rw [hWD]; exact ⟨HA.out.2.1, HA.out.2.2.1, HA.out.2.2.2.1⟩) (fun hHeld => ?_)
    rw [hWD] at hHeld ⊢
    clear hWD
    refine wpAnyH_take (i := 0) (v := ?_) rfl (by kernel_rfl) (by kernel_rfl) (by kernel_rfl) (fun _ _ _ h => h) (Or.inl ⟨by rfl, ?_⟩) (by assumption) ?_
    rotate_left
    · (intro w hSw; (try dsimp only at hSw); go_simp; try with_reducible rfl)
    simp only [Act.put, List.getElem_toArray, List.getElem_cons_zero, List.setIfInBounds_toArray, List.set_cons_zero, List.set_cons_succ]
    refine wpAnyH_take (i := 1) (v := ?_) rfl (by kernel_rfl) (by kernel_rfl) (by kernel_rfl) (fun _ _ _ h => h) (Or.inl ⟨by rfl, ?_⟩) (by assumption) ?_
    rotate_left
    · (intro w hSw; (try dsimp only at hSw); go_simp; try with_reducible rfl)
    simp only [Act.put, List.getElem_toArray, List.getElem_cons_succ, List.getElem_cons_zero, List.setIfInBounds_toArray, List.set_cons_zero, List.set_cons_succ]
    refine wpAnyH_take (i := 3) (v := ?_) rfl (by kernel_rfl) (by kernel_rfl) (by kernel_rfl) (fun _ _ _ h => h) (Or.inl ⟨by rfl, ?_⟩) (by assumption) ?_
    rotate_left
    · (intro w hSw; (try dsimp only at hSw); go_simp; try with_reducible rfl)
    simp only [Act.put, List.getElem_toArray, List.getElem_cons_succ, List.getElem_cons_zero, List.setIfInBounds_toArray, List.set_cons_zero, List.set_cons_succ]
    refine wpAnyH_take (i := 4) (v := ?_) rfl (by kernel_rfl) (by kernel_rfl) (by kernel_rfl) (fun _ _ _ h => h) (Or.inl ⟨by rfl, ?_⟩) (by assumption) ?_
    rotate_left
    · (intro w hSw; (try dsimp only at hSw); go_simp; try with_reducible rfl)
    simp only [Act.put, List.getElem_toArray, List.getElem_cons_succ, List.getElem_cons_zero, List.setIfInBounds_toArray, List.set_cons_zero, List.set_cons_succ]
    refine wpAnyH_take (i := 5) (v := ?_) rfl (by kernel_rfl) (by kernel_rfl) (by kernel_rfl) (fun _ _ _ h => h) (Or.inl ⟨by rfl, ?_⟩) (by assumption) ?_
    rotate_left
    · (intro w hSw; (try dsimp only at hSw); go_simp; try with_reducible rfl)
    simp only [Act.put, List.getElem_toArray, List.getElem_cons_succ, List.getElem_cons_zero, List.setIfInBounds_toArray, List.set_cons_zero, List.set_cons_succ]
    refine wpAnyH_ready (rs := [2]) (by kernel_rfl) (by simp) ?_
    refine AllReadyH.cons (o := _) rfl (fun K hK => ?_) AllReadyH.nil
    clear hHeld
    go_simp
    go_simp
    refine (ohas_calls _ _).mono ?_
    rintro e w9 ⟨rfl, rfl⟩
    try go_simp
    refine hK.out _ _ ?_ (fun hHeld => ?_)
    · exact ⟨HA.out.2.1, HA.out.2.2.1, HA.out.2.2.2.1⟩
    clear hK K
    refine wpAnyH_take (i := 6) (v := ?_) rfl (by kernel_rfl) (by kernel_rfl) (by kernel_rfl) (fun _ _ _ h => h) (Or.inl ⟨by rfl, ?_⟩) (by assumption) ?_
    rotate_left
    · (intro w hSw; (try dsimp only at hSw); go_simp; try with_reducible rfl)
    simp only [Act.put, List.getElem_toArray, List.getElem_cons_succ, List.getElem_cons_zero, List.setIfInBounds_toArray, List.set_cons_zero, List.set_cons_succ]
    refine wpAnyH_take (i := 7) (v := ?_) rfl (by kernel_rfl) (by kernel_rfl) (by kernel_rfl) (fun _ _ _ h => h) (Or.inl ⟨by rfl, ?_⟩) (by assumption) ?_
    rotate_left
    · (intro w hSw; (try dsimp only at hSw); go_simp; try with_reducible rfl)
    simp only [Act.put, List.getElem_toArray, List.getElem_cons_succ, List.getElem_cons_zero, List.setIfInBounds_toArray, List.set_cons_zero, List.set_cons_succ]
    refine wpAnyH_ready (rs := [8]) (by kernel_rfl) (by simp) ?_
    refine AllReadyH.cons (o := _) rfl (fun K hK => ?_) AllReadyH.nil
    clear hHeld
    go_simp
    go_simp
    refine (ohas_calls _ _).mono ?_
    rintro e w9 ⟨rfl, rfl⟩
    try go_simp
    refine hK.out _ _ ?_ (fun hHeld => ?_)
    · exact ⟨HA.out.2.1, HA.out.2.2.1, HA.out.2.2.2.1⟩
    clear hK K
    refine wpAnyH_take (i := 9) (v := ?_) rfl (by kernel_rfl) (by kernel_rfl) (by kernel_rfl) (fun _ _ _ h => h) (Or.inl ⟨by rfl, ?_⟩) (by assumption) ?_
    rotate_left
    · (intro w hSw; (try dsimp only at hSw); go_simp; try with_reducible rfl)
    simp only [Act.put, List.getElem_toArray, List.getElem_cons_succ, List.getElem_cons_zero, List.setIfInBounds_toArray, List.set_cons_zero, List.set_cons_succ]
    refine wpAnyH_done (by kernel_rfl) ?_ _
    clear hHeld
    by_cases hfg : g = 0
    rotate_left
    · have e1 : O = false := by rw [← HO.out]; unfold orB; rw [HAC.out, HBC.out]; exact decide_eq_false (fun h => hfg h.1.symm)
      have e2 : C = 0 := by rw [← HC.out]; unfold orC; rw [HO.out, e1]; rfl
      subst e1 e2
      have hne : ((0 : Int) != g) = true := by simp; omega
      have cHA0 := HA.out.2.1
      have cHA1 := HA.out.2.2.1
      have cHA2 := HA.out.2.2.2.1
      have cHA20 := HA2.out.2.1
      have cHA21 := HA2.out.2.2.1
      have cHA22 := HA2.out.2.2.2.1
      have cHRX0 := HRX.out.2.1
      have cHRX1 := HRX.out.2.2.1
      have cHRX2 := HRX.out.2.2.2.1
      have cHRX3 := HRX.out.2.2.2.2.1
      have cHRY0 := HRY.out.2.1
      have cHRY1 := HRY.out.2.2.1
      have cHRY2 := HRY.out.2.2.2.1
      have cHRY3 := HRY.out.2.2.2.2.1
      go_wp2_with fail
      refine (awake16_calls _ HT.out).mono ?_
      rintro e W20 ⟨rfl, hB⟩
      clear cHA0 cHA1 cHA2 cHA20 cHA21 cHA22 cHRX0 cHRX1 cHRX2 cHRX3 cHRY0 cHRY1 cHRY2 cHRY3
      replace HA := Lib.hid (HA.out.below hB)
      replace HA2 := Lib.hid (HA2.out.below hB)
      replace HB := Lib.hid (HB.out.trans (hB.mono HB.out.size))
      replace HI := Lib.hid (HI.out.grow hB)
      replace HI2 := Lib.hid (HI2.out.grow hB)
      replace HT := Lib.hid (fun j hj => keep_below hB _ _ (HT.out j hj))
      replace HRX := Lib.hid (HRX.out.below hB)
      replace HRY := Lib.hid (HRY.out.below hB)
      replace HUO := Lib.hid (HUO.out.grow hB)
      replace HVO := Lib.hid (HVO.out.grow hB)
      clear hB
      have cHA0 := HA.out.2.1
      have cHA1 := HA.out.2.2.1
      have cHA2 := HA.out.2.2.2.1
      have cHA20 := HA2.out.2.1
      have cHA21 := HA2.out.2.2.1
      have cHA22 := HA2.out.2.2.2.1
      have cHRX0 := HRX.out.2.1
      have cHRX1 := HRX.out.2.2.1
      have cHRX2 := HRX.out.2.2.2.1
      have cHRX3 := HRX.out.2.2.2.2.1
      have cHRY0 := HRY.out.2.1
      have cHRY1 := HRY.out.2.2.1
      have cHRY2 := HRY.out.2.2.2.1
      have cHRY3 := HRY.out.2.2.2.2.1
      go_wp2_with fail
      go_ret
      exact ⟨rfl, HB.out⟩
    subst hfg
    have HAL := Lib.hid (show A.cls < 2 by rw [HAC.out]; decide)
    have HBL := Lib.hid (show B.cls < 2 by rw [HBC.out]; decide)
    have e1 : O = true := by rw [← HO.out]; unfold orB; rw [HAC.out, HBC.out]; rfl
    have HKX2 := Lib.hid (HKX.out HAL.out)
    have HKY2 := Lib.hid (HKY.out HBL.out)
    have e2 : C = cmpI (keyP x) (keyP y) := by rw [← HC.out]; unfold orC; rw [HO.out, e1, HKX2.out.2.2, HKY2.out.2.2]; rfl
    have HXY := Lib.hid (show y.1 = x.1 by rw [HKX2.out.1, HKY2.out.1, HAC.out, HBC.out])
    have HFF := Lib.hid (show x.1 = 0 → Fnt x.2.1 ∧ Fnt y.2.1 from fun h => ⟨HKX2.out.2.1 h, HKY2.out.2.1 (HXY.out.trans h)⟩)
    have HFG := Lib.hid (show y.1 = 0 → Fnt y.2.1 ∧ Fnt x.2.1 from fun h => ⟨HKY2.out.2.1 h, HKX2.out.2.1 (HXY.out.symm.trans h)⟩)
    subst e1
    obtain ⟨kx, hkx⟩ : ∃ kx, keyP x = kx := ⟨_, rfl⟩
    obtain ⟨ky, hky⟩ : ∃ ky, keyP y = ky := ⟨_, rfl⟩
    rw [hkx, hky] at e2
    have HX9 := Lib.hid hkx
    have HY9 := Lib.hid hky
    clear hkx hky
    rcases Int.lt_trichotomy kx ky with hv | hv | hv
    · have e3 : C = -1 := e2.trans (cmpI_lt hv)
      have HD1 := Lib.hid (show decide (kx < ky) = true by simp; omega)
      have HD2 := Lib.hid (show decide (ky < kx) = false by simp; omega)
      clear e2
      subst e3
      clear hv
      have cHA0 := HA.out.2.1
      have cHA1 := HA.out.2.2.1
      have cHA2 := HA.out.2.2.2.1
      have cHA20 := HA2.out.2.1
      have cHA21 := HA2.out.2.2.1
      have cHA22 := HA2.out.2.2.2.1
      have cHRX0 := HRX.out.2.1
      have cHRX1 := HRX.out.2.2.1
      have cHRX2 := HRX.out.2.2.2.1
      have cHRX3 := HRX.out.2.2.2.2.1
      have cHRY0 := HRY.out.2.1
      have cHRY1 := HRY.out.2.2.1
      have cHRY2 := HRY.out.2.2.2.1
      have cHRY3 := HRY.out.2.2.2.2.1
      go_wp2_with fail
      refine (rbelow_calls x y sx sy _ HXY.out HFF.out).mono ?_
      rintro e W20 ⟨rfl, hB⟩
      clear cHA0 cHA1 cHA2 cHA20 cHA21 cHA22 cHRX0 cHRX1 cHRX2 cHRX3 cHRY0 cHRY1 cHRY2 cHRY3
      replace HA := Lib.hid (HA.out.below hB)
      replace HA2 := Lib.hid (HA2.out.below hB)
      replace HB := Lib.hid (HB.out.trans (hB.mono HB.out.size))
      replace HI := Lib.hid (HI.out.grow hB)
      replace HI2 := Lib.hid (HI2.out.grow hB)
      replace HT := Lib.hid (fun j hj => keep_below hB _ _ (HT.out j hj))
      replace HRX := Lib.hid (HRX.out.below hB)
      replace HRY := Lib.hid (HRY.out.below hB)
      replace HUO := Lib.hid (HUO.out.grow hB)
      replace HVO := Lib.hid (HVO.out.grow hB)
      rw [HX9.out, HY9.out, HD1.out]
      clear hB
      have cHA0 := HA.out.2.1
      have cHA1 := HA.out.2.2.1
      have cHA2 := HA.out.2.2.2.1
      have cHA20 := HA2.out.2.1
      have cHA21 := HA2.out.2.2.1
      have cHA22 := HA2.out.2.2.2.1
      have cHRX0 := HRX.out.2.1
      have cHRX1 := HRX.out.2.2.1
      have cHRX2 := HRX.out.2.2.2.1
      have cHRX3 := HRX.out.2.2.2.2.1
      have cHRY0 := HRY.out.2.1
      have cHRY1 := HRY.out.2.2.1
      have cHRY2 := HRY.out.2.2.2.1
      have cHRY3 := HRY.out.2.2.2.2.1
      go_wp2_with fail
      refine (rbelow_calls y x sy sx _ HXY.out.symm HFG.out).mono ?_
      rintro e W21 ⟨rfl, hB⟩
      clear cHA0 cHA1 cHA2 cHA20 cHA21 cHA22 cHRX0 cHRX1 cHRX2 cHRX3 cHRY0 cHRY1 cHRY2 cHRY3
      replace HA := Lib.hid (HA.out.below hB)
      replace HA2 := Lib.hid (HA2.out.below hB)
      replace HB := Lib.hid (HB.out.trans (hB.mono HB.out.size))
      replace HI := Lib.hid (HI.out.grow hB)
      replace HI2 := Lib.hid (HI2.out.grow hB)
      replace HT := Lib.hid (fun j hj => keep_below hB _ _ (HT.out j hj))
      replace HRX := Lib.hid (HRX.out.below hB)
      replace HRY := Lib.hid (HRY.out.below hB)
      replace HUO := Lib.hid (HUO.out.grow hB)
      replace HVO := Lib.hid (HVO.out.grow hB)
      rw [HX9.out, HY9.out, HD2.out]
      clear hB
      have cHA0 := HA.out.2.1
      have cHA1 := HA.out.2.2.1
      have cHA2 := HA.out.2.2.2.1
      have cHA20 := HA2.out.2.1
      have cHA21 := HA2.out.2.2.1
      have cHA22 := HA2.out.2.2.2.1
      have cHRX0 := HRX.out.2.1
      have cHRX1 := HRX.out.2.2.1
      have cHRX2 := HRX.out.2.2.2.1
      have cHRX3 := HRX.out.2.2.2.2.1
      have cHRY0 := HRY.out.2.1
      have cHRY1 := HRY.out.2.2.1
      have cHRY2 := HRY.out.2.2.2.1
      have cHRY3 := HRY.out.2.2.2.2.1
      go_wp2_with fail
      refine (awake16_calls _ HT.out).mono ?_
      rintro e W22 ⟨rfl, hB⟩
      clear cHA0 cHA1 cHA2 cHA20 cHA21 cHA22 cHRX0 cHRX1 cHRX2 cHRX3 cHRY0 cHRY1 cHRY2 cHRY3
      replace HA := Lib.hid (HA.out.below hB)
      replace HA2 := Lib.hid (HA2.out.below hB)
      replace HB := Lib.hid (HB.out.trans (hB.mono HB.out.size))
      replace HI := Lib.hid (HI.out.grow hB)
      replace HI2 := Lib.hid (HI2.out.grow hB)
      replace HT := Lib.hid (fun j hj => keep_below hB _ _ (HT.out j hj))
      replace HRX := Lib.hid (HRX.out.below hB)
      replace HRY := Lib.hid (HRY.out.below hB)
      replace HUO := Lib.hid (HUO.out.grow hB)
      replace HVO := Lib.hid (HVO.out.grow hB)
      clear hB
      have cHA0 := HA.out.2.1
      have cHA1 := HA.out.2.2.1
      have cHA2 := HA.out.2.2.2.1
      have cHA20 := HA2.out.2.1
      have cHA21 := HA2.out.2.2.1
      have cHA22 := HA2.out.2.2.2.1
      have cHRX0 := HRX.out.2.1
      have cHRX1 := HRX.out.2.2.1
      have cHRX2 := HRX.out.2.2.2.1
      have cHRX3 := HRX.out.2.2.2.2.1
      have cHRY0 := HRY.out.2.1
      have cHRY1 := HRY.out.2.2.1
      have cHRY2 := HRY.out.2.2.2.1
      have cHRY3 := HRY.out.2.2.2.2.1
      go_wp2_with fail
      go_ret
      exact ⟨rfl, HB.out⟩
    · have e3 : C = 0 := e2.trans (cmpI_eq hv)
      have HD1 := Lib.hid (show decide (kx < ky) = false by simp; omega)
      have HD2 := Lib.hid (show decide (ky < kx) = false by simp; omega)
      clear e2
      subst e3
      clear hv
      have cHA0 := HA.out.2.1
      have cHA1 := HA.out.2.2.1
      have cHA2 := HA.out.2.2.2.1
      have cHA20 := HA2.out.2.1
      have cHA21 := HA2.out.2.2.1
      have cHA22 := HA2.out.2.2.2.1
      have cHRX0 := HRX.out.2.1
      have cHRX1 := HRX.out.2.2.1
      have cHRX2 := HRX.out.2.2.2.1
      have cHRX3 := HRX.out.2.2.2.2.1
      have cHRY0 := HRY.out.2.1
      have cHRY1 := HRY.out.2.2.1
      have cHRY2 := HRY.out.2.2.2.1
      have cHRY3 := HRY.out.2.2.2.2.1
      go_wp2_with fail
      refine (rbelow_calls x y sx sy _ HXY.out HFF.out).mono ?_
      rintro e W20 ⟨rfl, hB⟩
      clear cHA0 cHA1 cHA2 cHA20 cHA21 cHA22 cHRX0 cHRX1 cHRX2 cHRX3 cHRY0 cHRY1 cHRY2 cHRY3
      replace HA := Lib.hid (HA.out.below hB)
      replace HA2 := Lib.hid (HA2.out.below hB)
      replace HB := Lib.hid (HB.out.trans (hB.mono HB.out.size))
      replace HI := Lib.hid (HI.out.grow hB)
      replace HI2 := Lib.hid (HI2.out.grow hB)
      replace HT := Lib.hid (fun j hj => keep_below hB _ _ (HT.out j hj))
      replace HRX := Lib.hid (HRX.out.below hB)
      replace HRY := Lib.hid (HRY.out.below hB)
      replace HUO := Lib.hid (HUO.out.grow hB)
      replace HVO := Lib.hid (HVO.out.grow hB)
      rw [HX9.out, HY9.out, HD1.out]
      clear hB
      have cHA0 := HA.out.2.1
      have cHA1 := HA.out.2.2.1
      have cHA2 := HA.out.2.2.2.1
      have cHA20 := HA2.out.2.1
      have cHA21 := HA2.out.2.2.1
      have cHA22 := HA2.out.2.2.2.1
      have cHRX0 := HRX.out.2.1
      have cHRX1 := HRX.out.2.2.1
      have cHRX2 := HRX.out.2.2.2.1
      have cHRX3 := HRX.out.2.2.2.2.1
      have cHRY0 := HRY.out.2.1
      have cHRY1 := HRY.out.2.2.1
      have cHRY2 := HRY.out.2.2.2.1
      have cHRY3 := HRY.out.2.2.2.2.1
      go_wp2_with fail
      refine (rbelow_calls y x sy sx _ HXY.out.symm HFG.out).mono ?_
      rintro e W21 ⟨rfl, hB⟩
      clear cHA0 cHA1 cHA2 cHA20 cHA21 cHA22 cHRX0 cHRX1 cHRX2 cHRX3 cHRY0 cHRY1 cHRY2 cHRY3
      replace HA := Lib.hid (HA.out.below hB)
      replace HA2 := Lib.hid (HA2.out.below hB)
      replace HB := Lib.hid (HB.out.trans (hB.mono HB.out.size))
      replace HI := Lib.hid (HI.out.grow hB)
      replace HI2 := Lib.hid (HI2.out.grow hB)
      replace HT := Lib.hid (fun j hj => keep_below hB _ _ (HT.out j hj))
      replace HRX := Lib.hid (HRX.out.below hB)
      replace HRY := Lib.hid (HRY.out.below hB)
      replace HUO := Lib.hid (HUO.out.grow hB)
      replace HVO := Lib.hid (HVO.out.grow hB)
      rw [HX9.out, HY9.out, HD2.out]
      clear hB
      have cHA0 := HA.out.2.1
      have cHA1 := HA.out.2.2.1
      have cHA2 := HA.out.2.2.2.1
      have cHA20 := HA2.out.2.1
      have cHA21 := HA2.out.2.2.1
      have cHA22 := HA2.out.2.2.2.1
      have cHRX0 := HRX.out.2.1
      have cHRX1 := HRX.out.2.2.1
      have cHRX2 := HRX.out.2.2.2.1
      have cHRX3 := HRX.out.2.2.2.2.1
      have cHRY0 := HRY.out.2.1
      have cHRY1 := HRY.out.2.2.1
      have cHRY2 := HRY.out.2.2.2.1
      have cHRY3 := HRY.out.2.2.2.2.1
      go_wp2_with fail
      refine (awake16_calls _ HT.out).mono ?_
      rintro e W22 ⟨rfl, hB⟩
      clear cHA0 cHA1 cHA2 cHA20 cHA21 cHA22 cHRX0 cHRX1 cHRX2 cHRX3 cHRY0 cHRY1 cHRY2 cHRY3
      replace HA := Lib.hid (HA.out.below hB)
      replace HA2 := Lib.hid (HA2.out.below hB)
      replace HB := Lib.hid (HB.out.trans (hB.mono HB.out.size))
      replace HI := Lib.hid (HI.out.grow hB)
      replace HI2 := Lib.hid (HI2.out.grow hB)
      replace HT := Lib.hid (fun j hj => keep_below hB _ _ (HT.out j hj))
      replace HRX := Lib.hid (HRX.out.below hB)
      replace HRY := Lib.hid (HRY.out.below hB)
      replace HUO := Lib.hid (HUO.out.grow hB)
      replace HVO := Lib.hid (HVO.out.grow hB)
      clear hB
      have cHA0 := HA.out.2.1
      have cHA1 := HA.out.2.2.1
      have cHA2 := HA.out.2.2.2.1
      have cHA20 := HA2.out.2.1
      have cHA21 := HA2.out.2.2.1
      have cHA22 := HA2.out.2.2.2.1
      have cHRX0 := HRX.out.2.1
      have cHRX1 := HRX.out.2.2.1
      have cHRX2 := HRX.out.2.2.2.1
      have cHRX3 := HRX.out.2.2.2.2.1
      have cHRY0 := HRY.out.2.1
      have cHRY1 := HRY.out.2.2.1
      have cHRY2 := HRY.out.2.2.2.1
      have cHRY3 := HRY.out.2.2.2.2.1
      go_wp2_with fail
      go_ret
      exact ⟨rfl, HB.out⟩
    · have e3 : C = 1 := e2.trans (cmpI_gt hv)
      have HD1 := Lib.hid (show decide (kx < ky) = false by simp; omega)
      have HD2 := Lib.hid (show decide (ky < kx) = true by simp; omega)
      clear e2
      subst e3
      clear hv
      have cHA0 := HA.out.2.1
      have cHA1 := HA.out.2.2.1
      have cHA2 := HA.out.2.2.2.1
      have cHA20 := HA2.out.2.1
      have cHA21 := HA2.out.2.2.1
      have cHA22 := HA2.out.2.2.2.1
      have cHRX0 := HRX.out.2.1
      have cHRX1 := HRX.out.2.2.1
      have cHRX2 := HRX.out.2.2.2.1
      have cHRX3 := HRX.out.2.2.2.2.1
      have cHRY0 := HRY.out.2.1
      have cHRY1 := HRY.out.2.2.1
      have cHRY2 := HRY.out.2.2.2.1
      have cHRY3 := HRY.out.2.2.2.2.1
      go_wp2_with fail
      refine (rbelow_calls x y sx sy _ HXY.out HFF.out).mono ?_
      rintro e W20 ⟨rfl, hB⟩
      clear cHA0 cHA1 cHA2 cHA20 cHA21 cHA22 cHRX0 cHRX1 cHRX2 cHRX3 cHRY0 cHRY1 cHRY2 cHRY3
      replace HA := Lib.hid (HA.out.below hB)
      replace HA2 := Lib.hid (HA2.out.below hB)
      replace HB := Lib.hid (HB.out.trans (hB.mono HB.out.size))
      replace HI := Lib.hid (HI.out.grow hB)
      replace HI2 := Lib.hid (HI2.out.grow hB)
      replace HT := Lib.hid (fun j hj => keep_below hB _ _ (HT.out j hj))
      replace HRX := Lib.hid (HRX.out.below hB)
      replace HRY := Lib.hid (HRY.out.below hB)
      replace HUO := Lib.hid (HUO.out.grow hB)
      replace HVO := Lib.hid (HVO.out.grow hB)
      rw [HX9.out, HY9.out, HD1.out]
      clear hB
      have cHA0 := HA.out.2.1
      have cHA1 := HA.out.2.2.1
      have cHA2 := HA.out.2.2.2.1
      have cHA20 := HA2.out.2.1
      have cHA21 := HA2.out.2.2.1
      have cHA22 := HA2.out.2.2.2.1
      have cHRX0 := HRX.out.2.1
      have cHRX1 := HRX.out.2.2.1
      have cHRX2 := HRX.out.2.2.2.1
      have cHRX3 := HRX.out.2.2.2.2.1
      have cHRY0 := HRY.out.2.1
      have cHRY1 := HRY.out.2.2.1
      have cHRY2 := HRY.out.2.2.2.1
      have cHRY3 := HRY.out.2.2.2.2.1
      go_wp2_with fail
      refine (rbelow_calls y x sy sx _ HXY.out.symm HFG.out).mono ?_
      rintro e W21 ⟨rfl, hB⟩
      clear cHA0 cHA1 cHA2 cHA20 cHA21 cHA22 cHRX0 cHRX1 cHRX2 cHRX3 cHRY0 cHRY1 cHRY2 cHRY3
      replace HA := Lib.hid (HA.out.below hB)
      replace HA2 := Lib.hid (HA2.out.below hB)
      replace HB := Lib.hid (HB.out.trans (hB.mono HB.out.size))
      replace HI := Lib.hid (HI.out.grow hB)
      replace HI2 := Lib.hid (HI2.out.grow hB)
      replace HT := Lib.hid (fun j hj => keep_below hB _ _ (HT.out j hj))
      replace HRX := Lib.hid (HRX.out.below hB)
      replace HRY := Lib.hid (HRY.out.below hB)
      replace HUO := Lib.hid (HUO.out.grow hB)
      replace HVO := Lib.hid (HVO.out.grow hB)
      rw [HX9.out, HY9.out, HD2.out]
      clear hB
      have cHA0 := HA.out.2.1
      have cHA1 := HA.out.2.2.1
      have cHA2 := HA.out.2.2.2.1
      have cHA20 := HA2.out.2.1
      have cHA21 := HA2.out.2.2.1
      have cHA22 := HA2.out.2.2.2.1
      have cHRX0 := HRX.out.2.1
      have cHRX1 := HRX.out.2.2.1
      have cHRX2 := HRX.out.2.2.2.1
      have cHRX3 := HRX.out.2.2.2.2.1
      have cHRY0 := HRY.out.2.1
      have cHRY1 := HRY.out.2.2.1
      have cHRY2 := HRY.out.2.2.2.1
      have cHRY3 := HRY.out.2.2.2.2.1
      go_wp2_with fail
      refine (awake16_calls _ HT.out).mono ?_
      rintro e W22 ⟨rfl, hB⟩
      clear cHA0 cHA1 cHA2 cHA20 cHA21 cHA22 cHRX0 cHRX1 cHRX2 cHRX3 cHRY0 cHRY1 cHRY2 cHRY3
      replace HA := Lib.hid (HA.out.below hB)
      replace HA2 := Lib.hid (HA2.out.below hB)
      replace HB := Lib.hid (HB.out.trans (hB.mono HB.out.size))
      replace HI := Lib.hid (HI.out.grow hB)
      replace HI2 := Lib.hid (HI2.out.grow hB)
      replace HT := Lib.hid (fun j hj => keep_below hB _ _ (HT.out j hj))
      replace HRX := Lib.hid (HRX.out.below hB)
      replace HRY := Lib.hid (HRY.out.below hB)
      replace HUO := Lib.hid (HUO.out.grow hB)
      replace HVO := Lib.hid (HVO.out.grow hB)
      clear hB
      have cHA0 := HA.out.2.1
      have cHA1 := HA.out.2.2.1
      have cHA2 := HA.out.2.2.2.1
      have cHA20 := HA2.out.2.1
      have cHA21 := HA2.out.2.2.1
      have cHA22 := HA2.out.2.2.2.1
      have cHRX0 := HRX.out.2.1
      have cHRX1 := HRX.out.2.2.1
      have cHRX2 := HRX.out.2.2.2.1
      have cHRX3 := HRX.out.2.2.2.2.1
      have cHRY0 := HRY.out.2.1
      have cHRY1 := HRY.out.2.2.1
      have cHRY2 := HRY.out.2.2.2.1
      have cHRY3 := HRY.out.2.2.2.2.1
      go_wp2_with fail
      go_ret
      exact ⟨rfl, HB.out⟩
  · have cHA0 := HA.out.2.1
    have cHA1 := HA.out.2.2.1
    have cHA2 := HA.out.2.2.2.1
    have cHA20 := HA2.out.2.1
    have cHA21 := HA2.out.2.2.1
    have cHA22 := HA2.out.2.2.2.1
    have cHRX0 := HRX.out.2.1
    have cHRX1 := HRX.out.2.2.1
    have cHRX2 := HRX.out.2.2.2.1
    have cHRX3 := HRX.out.2.2.2.2.1
    have cHRY0 := HRY.out.2.1
    have cHRY1 := HRY.out.2.2.1
    have cHRY2 := HRY.out.2.2.2.1
    have cHRY3 := HRY.out.2.2.2.2.1
    go_wp2_with fail
    obtain ⟨W19, hWD⟩ : ∃ xw9, W18.drew = xw9 := ⟨_, rfl⟩
    have hB : Below W18.heap.size W18 W19 := by rw [← hWD]; exact Below.drewN' (Below.refl _ _) 1
    clear cHA0 cHA1 cHA2 cHA20 cHA21 cHA22 cHRX0 cHRX1 cHRX2 cHRX3 cHRY0 cHRY1 cHRY2 cHRY3
    replace HA := Lib.hid (HA.out.below hB)
    replace HA2 := Lib.hid (HA2.out.below hB)
    replace HB := Lib.hid (HB.out.trans (hB.mono HB.out.size))
    replace HI := Lib.hid (HI.out.grow hB)
    replace HI2 := Lib.hid (HI2.out.grow hB)
    replace HT := Lib.hid (fun j hj => keep_below hB _ _ (HT.out j hj))
    replace HRX := Lib.hid (HRX.out.below hB)
    replace HRY := Lib.hid (HRY.out.below hB)
    replace HUO := Lib.hid (HUO.out.grow hB)
    replace HVO := Lib.hid (HVO.out.grow hB)
    clear hB
    refine wp_region_held_drew (S := fun w' => w'.cell? ⟨w.heap.size, 0, none⟩ = some (.slice so p.s.length sc) ∧ w'.cell? ⟨w.heap.size, 1, none⟩ = some (.slice io n ic) ∧ w'.cell? ⟨w.heap.size, 2, none⟩ = some (.int .i64 1)) (by kernel_rfl) (by rw [hWD]; exact ⟨HA.out.2.1, HA.out.2.2.1, HA.out.2.2.2.1⟩) (fun hHeld => ?_)
    rw [hWD] at hHeld ⊢
    clear hWD
    refine wpAnyH_take (i := 0) (v := ?_) rfl (by kernel_rfl) (by kernel_rfl) (by kernel_rfl) (fun _ _ _ h => h) (Or.inl ⟨by rfl, ?_⟩) (by assumption) ?_
    rotate_left
    · (intro w hSw; (try dsimp only at hSw); go_simp; try with_reducible rfl)
    simp only [Act.put, List.getElem_toArray, List.getElem_cons_zero, List.setIfInBounds_toArray, List.set_cons_zero, List.set_cons_succ]
    refine wpAnyH_take (i := 1) (v := ?_) rfl (by kernel_rfl) (by kernel_rfl) (by kernel_rfl) (fun _ _ _ h => h) (Or.inl ⟨by rfl, ?_⟩) (by assumption) ?_
    rotate_left
    · (intro w hSw; (try dsimp only at hSw); go_simp; try with_reducible rfl)
    simp only [Act.put, List.getElem_toArray, List.getElem_cons_succ, List.getElem_cons_zero, List.setIfInBounds_toArray, List.set_cons_zero, List.set_cons_succ]
    refine wpAnyH_take (i := 3) (v := ?_) rfl (by kernel_rfl) (by kernel_rfl) (by kernel_rfl) (fun _ _ _ h => h) (Or.inl ⟨by rfl, ?_⟩) (by assumption) ?_
    rotate_left
    · (intro w hSw; (try dsimp only at hSw); go_simp; try with_reducible rfl)
    simp only [Act.put, List.getElem_toArray, List.getElem_cons_succ, List.getElem_cons_zero, List.setIfInBounds_toArray, List.set_cons_zero, List.set_cons_succ]
    refine wpAnyH_take (i := 4) (v := ?_) rfl (by kernel_rfl) (by kernel_rfl) (by kernel_rfl) (fun _ _ _ h => h) (Or.inl ⟨by rfl, ?_⟩) (by assumption) ?_
    rotate_left
    · (intro w hSw; (try dsimp only at hSw); go_simp; try with_reducible rfl)
    simp only [Act.put, List.getElem_toArray, List.getElem_cons_succ, List.getElem_cons_zero, List.setIfInBounds_toArray, List.set_cons_zero, List.set_cons_succ]
    refine wpAnyH_take (i := 5) (v := ?_) rfl (by kernel_rfl) (by kernel_rfl) (by kernel_rfl) (fun _ _ _ h => h) (Or.inl ⟨by rfl, ?_⟩) (by assumption) ?_
    rotate_left
    · (intro w hSw; (try dsimp only at hSw); go_simp; try with_reducible rfl)
    simp only [Act.put, List.getElem_toArray, List.getElem_cons_succ, List.getElem_cons_zero, List.setIfInBounds_toArray, List.set_cons_zero, List.set_cons_succ]
    refine wpAnyH_ready (rs := [2]) (by kernel_rfl) (by simp) ?_
    refine AllReadyH.cons (o := _) rfl (fun K hK => ?_) AllReadyH.nil
    clear hHeld
    go_simp
    go_simp
    refine (ohas_calls _ _).mono ?_
    rintro e w9 ⟨rfl, rfl⟩
    try go_simp
    refine hK.out _ _ ?_ (fun hHeld => ?_)
    · exact ⟨HA.out.2.1, HA.out.2.2.1, HA.out.2.2.2.1⟩
    clear hK K
    refine wpAnyH_take (i := 6) (v := ?_) rfl (by kernel_rfl) (by kernel_rfl) (by kernel_rfl) (fun _ _ _ h => h) (Or.inl ⟨by rfl, ?_⟩) (by assumption) ?_
    rotate_left
    · (intro w hSw; (try dsimp only at hSw); go_simp; try with_reducible rfl)
    simp only [Act.put, List.getElem_toArray, List.getElem_cons_succ, List.getElem_cons_zero, List.setIfInBounds_toArray, List.set_cons_zero, List.set_cons_succ]
    refine wpAnyH_take (i := 7) (v := ?_) rfl (by kernel_rfl) (by kernel_rfl) (by kernel_rfl) (fun _ _ _ h => h) (Or.inl ⟨by rfl, ?_⟩) (by assumption) ?_
    rotate_left
    · (intro w hSw; (try dsimp only at hSw); go_simp; try with_reducible rfl)
    simp only [Act.put, List.getElem_toArray, List.getElem_cons_succ, List.getElem_cons_zero, List.setIfInBounds_toArray, List.set_cons_zero, List.set_cons_succ]
    refine wpAnyH_ready (rs := [8]) (by kernel_rfl) (by simp) ?_
    refine AllReadyH.cons (o := _) rfl (fun K hK => ?_) AllReadyH.nil
    clear hHeld
    go_simp
    go_simp
    refine (ohas_calls _ _).mono ?_
    rintro e w9 ⟨rfl, rfl⟩
    try go_simp
    refine hK.out _ _ ?_ (fun hHeld => ?_)
    · exact ⟨HA.out.2.1, HA.out.2.2.1, HA.out.2.2.2.1⟩
    clear hK K
    refine wpAnyH_take (i := 9) (v := ?_) rfl (by kernel_rfl) (by kernel_rfl) (by kernel_rfl) (fun _ _ _ h => h) (Or.inl ⟨by rfl, ?_⟩) (by assumption) ?_
    rotate_left
    · (intro w hSw; (try dsimp only at hSw); go_simp; try with_reducible rfl)
    simp only [Act.put, List.getElem_toArray, List.getElem_cons_succ, List.getElem_cons_zero, List.setIfInBounds_toArray, List.set_cons_zero, List.set_cons_succ]
    refine wpAnyH_done (by kernel_rfl) ?_ _
    clear hHeld
    by_cases hfg : g = 1
    rotate_left
    · have e1 : O = false := by rw [← HO.out]; unfold orB; rw [HAC.out, HBC.out]; exact decide_eq_false (fun h => hfg h.1.symm)
      have e2 : C = 0 := by rw [← HC.out]; unfold orC; rw [HO.out, e1]; rfl
      subst e1 e2
      have hne : ((1 : Int) != g) = true := by simp; omega
      have cHA0 := HA.out.2.1
      have cHA1 := HA.out.2.2.1
      have cHA2 := HA.out.2.2.2.1
      have cHA20 := HA2.out.2.1
      have cHA21 := HA2.out.2.2.1
      have cHA22 := HA2.out.2.2.2.1
      have cHRX0 := HRX.out.2.1
      have cHRX1 := HRX.out.2.2.1
      have cHRX2 := HRX.out.2.2.2.1
      have cHRX3 := HRX.out.2.2.2.2.1
      have cHRY0 := HRY.out.2.1
      have cHRY1 := HRY.out.2.2.1
      have cHRY2 := HRY.out.2.2.2.1
      have cHRY3 := HRY.out.2.2.2.2.1
      go_wp2_with fail
      refine (awake16_calls _ HT.out).mono ?_
      rintro e W20 ⟨rfl, hB⟩
      clear cHA0 cHA1 cHA2 cHA20 cHA21 cHA22 cHRX0 cHRX1 cHRX2 cHRX3 cHRY0 cHRY1 cHRY2 cHRY3
      replace HA := Lib.hid (HA.out.below hB)
      replace HA2 := Lib.hid (HA2.out.below hB)
      replace HB := Lib.hid (HB.out.trans (hB.mono HB.out.size))
      replace HI := Lib.hid (HI.out.grow hB)
      replace HI2 := Lib.hid (HI2.out.grow hB)
      replace HT := Lib.hid (fun j hj => keep_below hB _ _ (HT.out j hj))
      replace HRX := Lib.hid (HRX.out.below hB)
      replace HRY := Lib.hid (HRY.out.below hB)
      replace HUO := Lib.hid (HUO.out.grow hB)
      replace HVO := Lib.hid (HVO.out.grow hB)
      clear hB
      have cHA0 := HA.out.2.1
      have cHA1 := HA.out.2.2.1
      have cHA2 := HA.out.2.2.2.1
      have cHA20 := HA2.out.2.1
      have cHA21 := HA2.out.2.2.1
      have cHA22 := HA2.out.2.2.2.1
      have cHRX0 := HRX.out.2.1
      have cHRX1 := HRX.out.2.2.1
      have cHRX2 := HRX.out.2.2.2.1
      have cHRX3 := HRX.out.2.2.2.2.1
      have cHRY0 := HRY.out.2.1
      have cHRY1 := HRY.out.2.2.1
      have cHRY2 := HRY.out.2.2.2.1
      have cHRY3 := HRY.out.2.2.2.2.1
      go_wp2_with fail
      go_ret
      exact ⟨rfl, HB.out⟩
    subst hfg
    have HAL := Lib.hid (show A.cls < 2 by rw [HAC.out]; decide)
    have HBL := Lib.hid (show B.cls < 2 by rw [HBC.out]; decide)
    have e1 : O = true := by rw [← HO.out]; unfold orB; rw [HAC.out, HBC.out]; rfl
    have HKX2 := Lib.hid (HKX.out HAL.out)
    have HKY2 := Lib.hid (HKY.out HBL.out)
    have e2 : C = cmpI (keyP x) (keyP y) := by rw [← HC.out]; unfold orC; rw [HO.out, e1, HKX2.out.2.2, HKY2.out.2.2]; rfl
    have HXY := Lib.hid (show y.1 = x.1 by rw [HKX2.out.1, HKY2.out.1, HAC.out, HBC.out])
    have HFF := Lib.hid (show x.1 = 0 → Fnt x.2.1 ∧ Fnt y.2.1 from fun h => ⟨HKX2.out.2.1 h, HKY2.out.2.1 (HXY.out.trans h)⟩)
    have HFG := Lib.hid (show y.1 = 0 → Fnt y.2.1 ∧ Fnt x.2.1 from fun h => ⟨HKY2.out.2.1 h, HKX2.out.2.1 (HXY.out.symm.trans h)⟩)
    subst e1
    obtain ⟨kx, hkx⟩ : ∃ kx, keyP x = kx := ⟨_, rfl⟩
    obtain ⟨ky, hky⟩ : ∃ ky, keyP y = ky := ⟨_, rfl⟩
    rw [hkx, hky] at e2
    have HX9 := Lib.hid hkx
    have HY9 := Lib.hid hky
    clear hkx hky
    rcases Int.lt_trichotomy kx ky with hv | hv | hv
    · have e3 : C = -1 := e2.trans (cmpI_lt hv)
      have HD1 := Lib.hid (show decide (kx < ky) = true by simp; omega)
      have HD2 := Lib.hid (show decide (ky < kx) = false by simp; omega)
      clear e2
      subst e3
      clear hv
      have cHA0 := HA.out.2.1
      have cHA1 := HA.out.2.2.1
      have cHA2 := HA.out.2.2.2.1
      have cHA20 := HA2.out.2.1
      have cHA21 := HA2.out.2.2.1
      have cHA22 := HA2.out.2.2.2.1
      have cHRX0 := HRX.out.2.1
      have cHRX1 := HRX.out.2.2.1
      have cHRX2 := HRX.out.2.2.2.1
      have cHRX3 := HRX.out.2.2.2.2.1
      have cHRY0 := HRY.out.2.1
      have cHRY1 := HRY.out.2.2.1
      have cHRY2 := HRY.out.2.2.2.1
      have cHRY3 := HRY.out.2.2.2.2.1
      go_wp2_with fail
      refine (rbelow_calls x y sx sy _ HXY.out HFF.out).mono ?_
      rintro e W20 ⟨rfl, hB⟩
      clear cHA0 cHA1 cHA2 cHA20 cHA21 cHA22 cHRX0 cHRX1 cHRX2 cHRX3 cHRY0 cHRY1 cHRY2 cHRY3
      replace HA := Lib.hid (HA.out.below hB)
      replace HA2 := Lib.hid (HA2.out.below hB)
      replace HB := Lib.hid (HB.out.trans (hB.mono HB.out.size))
      replace HI := Lib.hid (HI.out.grow hB)
      replace HI2 := Lib.hid (HI2.out.grow hB)
      replace HT := Lib.hid (fun j hj => keep_below hB _ _ (HT.out j hj))
      replace HRX := Lib.hid (HRX.out.below hB)
      replace HRY := Lib.hid (HRY.out.below hB)
      replace HUO := Lib.hid (HUO.out.grow hB)
      replace HVO := Lib.hid (HVO.out.grow hB)
      rw [HX9.out, HY9.out, HD1.out]
      clear hB
      have cHA0 := HA.out.2.1
      have cHA1 := HA.out.2.2.1
      have cHA2 := HA.out.2.2.2.1
      have cHA20 := HA2.out.2.1
      have cHA21 := HA2.out.2.2.1
      have cHA22 := HA2.out.2.2.2.1
      have cHRX0 := HRX.out.2.1
      have cHRX1 := HRX.out.2.2.1
      have cHRX2 := HRX.out.2.2.2.1
      have cHRX3 := HRX.out.2.2.2.2.1
      have cHRY0 := HRY.out.2.1
      have cHRY1 := HRY.out.2.2.1
      have cHRY2 := HRY.out.2.2.2.1
      have cHRY3 := HRY.out.2.2.2.2.1
      go_wp2_with fail
      refine (rbelow_calls y x sy sx _ HXY.out.symm HFG.out).mono ?_
      rintro e W21 ⟨rfl, hB⟩
      clear cHA0 cHA1 cHA2 cHA20 cHA21 cHA22 cHRX0 cHRX1 cHRX2 cHRX3 cHRY0 cHRY1 cHRY2 cHRY3
      replace HA := Lib.hid (HA.out.below hB)
      replace HA2 := Lib.hid (HA2.out.below hB)
      replace HB := Lib.hid (HB.out.trans (hB.mono HB.out.size))
      replace HI := Lib.hid (HI.out.grow hB)
      replace HI2 := Lib.hid (HI2.out.grow hB)
      replace HT := Lib.hid (fun j hj => keep_below hB _ _ (HT.out j hj))
      replace HRX := Lib.hid (HRX.out.below hB)
      replace HRY := Lib.hid (HRY.out.below hB)
      replace HUO := Lib.hid (HUO.out.grow hB)
      replace HVO := Lib.hid (HVO.out.grow hB)
      rw [HX9.out, HY9.out, HD2.out]
      clear hB
      have cHA0 := HA.out.2.1
      have cHA1 := HA.out.2.2.1
      have cHA2 := HA.out.2.2.2.1
      have cHA20 := HA2.out.2.1
      have cHA21 := HA2.out.2.2.1
      have cHA22 := HA2.out.2.2.2.1
      have cHRX0 := HRX.out.2.1
      have cHRX1 := HRX.out.2.2.1
      have cHRX2 := HRX.out.2.2.2.1
      have cHRX3 := HRX.out.2.2.2.2.1
      have cHRY0 := HRY.out.2.1
      have cHRY1 := HRY.out.2.2.1
      have cHRY2 := HRY.out.2.2.2.1
      have cHRY3 := HRY.out.2.2.2.2.1
      go_wp2_with fail
      refine (awake16_calls _ HT.out).mono ?_
      rintro e W22 ⟨rfl, hB⟩
      clear cHA0 cHA1 cHA2 cHA20 cHA21 cHA22 cHRX0 cHRX1 cHRX2 cHRX3 cHRY0 cHRY1 cHRY2 cHRY3
      replace HA := Lib.hid (HA.out.below hB)
      replace HA2 := Lib.hid (HA2.out.below hB)
      replace HB := Lib.hid (HB.out.trans (hB.mono HB.out.size))
      replace HI := Lib.hid (HI.out.grow hB)
      replace HI2 := Lib.hid (HI2.out.grow hB)
      replace HT := Lib.hid (fun j hj => keep_below hB _ _ (HT.out j hj))
      replace HRX := Lib.hid (HRX.out.below hB)
      replace HRY := Lib.hid (HRY.out.below hB)
      replace HUO := Lib.hid (HUO.out.grow hB)
      replace HVO := Lib.hid (HVO.out.grow hB)
      clear hB
      have cHA0 := HA.out.2.1
      have cHA1 := HA.out.2.2.1
      have cHA2 := HA.out.2.2.2.1
      have cHA20 := HA2.out.2.1
      have cHA21 := HA2.out.2.2.1
      have cHA22 := HA2.out.2.2.2.1
      have cHRX0 := HRX.out.2.1
      have cHRX1 := HRX.out.2.2.1
      have cHRX2 := HRX.out.2.2.2.1
      have cHRX3 := HRX.out.2.2.2.2.1
      have cHRY0 := HRY.out.2.1
      have cHRY1 := HRY.out.2.2.1
      have cHRY2 := HRY.out.2.2.2.1
      have cHRY3 := HRY.out.2.2.2.2.1
      go_wp2_with fail
      go_ret
      exact ⟨rfl, HB.out⟩
    · have e3 : C = 0 := e2.trans (cmpI_eq hv)
      have HD1 := Lib.hid (show decide (kx < ky) = false by simp; omega)
      have HD2 := Lib.hid (show decide (ky < kx) = false by simp; omega)
      clear e2
      subst e3
      clear hv
      have cHA0 := HA.out.2.1
      have cHA1 := HA.out.2.2.1
      have cHA2 := HA.out.2.2.2.1
      have cHA20 := HA2.out.2.1
      have cHA21 := HA2.out.2.2.1
      have cHA22 := HA2.out.2.2.2.1
      have cHRX0 := HRX.out.2.1
      have cHRX1 := HRX.out.2.2.1
      have cHRX2 := HRX.out.2.2.2.1
      have cHRX3 := HRX.out.2.2.2.2.1
      have cHRY0 := HRY.out.2.1
      have cHRY1 := HRY.out.2.2.1
      have cHRY2 := HRY.out.2.2.2.1
      have cHRY3 := HRY.out.2.2.2.2.1
      go_wp2_with fail
      refine (rbelow_calls x y sx sy _ HXY.out HFF.out).mono ?_
      rintro e W20 ⟨rfl, hB⟩
      clear cHA0 cHA1 cHA2 cHA20 cHA21 cHA22 cHRX0 cHRX1 cHRX2 cHRX3 cHRY0 cHRY1 cHRY2 cHRY3
      replace HA := Lib.hid (HA.out.below hB)
      replace HA2 := Lib.hid (HA2.out.below hB)
      replace HB := Lib.hid (HB.out.trans (hB.mono HB.out.size))
      replace HI := Lib.hid (HI.out.grow hB)
      replace HI2 := Lib.hid (HI2.out.grow hB)
      replace HT := Lib.hid (fun j hj => keep_below hB _ _ (HT.out j hj))
      replace HRX := Lib.hid (HRX.out.below hB)
      replace HRY := Lib.hid (HRY.out.below hB)
      replace HUO := Lib.hid (HUO.out.grow hB)
      replace HVO := Lib.hid (HVO.out.grow hB)
      rw [HX9.out, HY9.out, HD1.out]
      clear hB
      have cHA0 := HA.out.2.1
      have cHA1 := HA.out.2.2.1
      have cHA2 := HA.out.2.2.2.1
      have cHA20 := HA2.out.2.1
      have cHA21 := HA2.out.2.2.1
      have cHA22 := HA2.out.2.2.2.1
      have cHRX0 := HRX.out.2.1
      have cHRX1 := HRX.out.2.2.1
      have cHRX2 := HRX.out.2.2.2.1
      have cHRX3 := HRX.out.2.2.2.2.1
      have cHRY0 := HRY.out.2.1
      have cHRY1 := HRY.out.2.2.1
      have cHRY2 := HRY.out.2.2.2.1
      have cHRY3 := HRY.out.2.2.2.2.1
      go_wp2_with fail
      refine (rbelow_calls y x sy sx _ HXY.out.symm HFG.out).mono ?_
      rintro e W21 ⟨rfl, hB⟩
      clear cHA0 cHA1 cHA2 cHA20 cHA21 cHA22 cHRX0 cHRX1 cHRX2 cHRX3 cHRY0 cHRY1 cHRY2 cHRY3
      replace HA := Lib.hid (HA.out.below hB)
      replace HA2 := Lib.hid (HA2.out.below hB)
      replace HB := Lib.hid (HB.out.trans (hB.mono HB.out.size))
      replace HI := Lib.hid (HI.out.grow hB)
      replace HI2 := Lib.hid (HI2.out.grow hB)
      replace HT := Lib.hid (fun j hj => keep_below hB _ _ (HT.out j hj))
      replace HRX := Lib.hid (HRX.out.below hB)
      replace HRY := Lib.hid (HRY.out.below hB)
      replace HUO := Lib.hid (HUO.out.grow hB)
      replace HVO := Lib.hid (HVO.out.grow hB)
      rw [HX9.out, HY9.out, HD2.out]
      clear hB
      have cHA0 := HA.out.2.1
      have cHA1 := HA.out.2.2.1
      have cHA2 := HA.out.2.2.2.1
      have cHA20 := HA2.out.2.1
      have cHA21 := HA2.out.2.2.1
      have cHA22 := HA2.out.2.2.2.1
      have cHRX0 := HRX.out.2.1
      have cHRX1 := HRX.out.2.2.1
      have cHRX2 := HRX.out.2.2.2.1
      have cHRX3 := HRX.out.2.2.2.2.1
      have cHRY0 := HRY.out.2.1
      have cHRY1 := HRY.out.2.2.1
      have cHRY2 := HRY.out.2.2.2.1
      have cHRY3 := HRY.out.2.2.2.2.1
      go_wp2_with fail
      refine (awake16_calls _ HT.out).mono ?_
      rintro e W22 ⟨rfl, hB⟩
      clear cHA0 cHA1 cHA2 cHA20 cHA21 cHA22 cHRX0 cHRX1 cHRX2 cHRX3 cHRY0 cHRY1 cHRY2 cHRY3
      replace HA := Lib.hid (HA.out.below hB)
      replace HA2 := Lib.hid (HA2.out.below hB)
      replace HB := Lib.hid (HB.out.trans (hB.mono HB.out.size))
      replace HI := Lib.hid (HI.out.grow hB)
      replace HI2 := Lib.hid (HI2.out.grow hB)
      replace HT := Lib.hid (fun j hj => keep_below hB _ _ (HT.out j hj))
      replace HRX := Lib.hid (HRX.out.below hB)
      replace HRY := Lib.hid (HRY.out.below hB)
      replace HUO := Lib.hid (HUO.out.grow hB)
      replace HVO := Lib.hid (HVO.out.grow hB)
      clear hB
      have cHA0 := HA.out.2.1
      have cHA1 := HA.out.2.2.1
      have cHA2 := HA.out.2.2.2.1
      have cHA20 := HA2.out.2.1
      have cHA21 := HA2.out.2.2.1
      have cHA22 := HA2.out.2.2.2.1
      have cHRX0 := HRX.out.2.1
      have cHRX1 := HRX.out.2.2.1
      have cHRX2 := HRX.out.2.2.2.1
      have cHRX3 := HRX.out.2.2.2.2.1
      have cHRY0 := HRY.out.2.1
      have cHRY1 := HRY.out.2.2.1
      have cHRY2 := HRY.out.2.2.2.1
      have cHRY3 := HRY.out.2.2.2.2.1
      go_wp2_with fail
      go_ret
      exact ⟨rfl, HB.out⟩
    · have e3 : C = 1 := e2.trans (cmpI_gt hv)
      have HD1 := Lib.hid (show decide (kx < ky) = false by simp; omega)
      have HD2 := Lib.hid (show decide (ky < kx) = true by simp; omega)
      clear e2
      subst e3
      clear hv
      have cHA0 := HA.out.2.1
      have cHA1 := HA.out.2.2.1
      have cHA2 := HA.out.2.2.2.1
      have cHA20 := HA2.out.2.1
      have cHA21 := HA2.out.2.2.1
      have cHA22 := HA2.out.2.2.2.1
      have cHRX0 := HRX.out.2.1
      have cHRX1 := HRX.out.2.2.1
      have cHRX2 := HRX.out.2.2.2.1
      have cHRX3 := HRX.out.2.2.2.2.1
      have cHRY0 := HRY.out.2.1
      have cHRY1 := HRY.out.2.2.1
      have cHRY2 := HRY.out.2.2.2.1
      have cHRY3 := HRY.out.2.2.2.2.1
      go_wp2_with fail
      refine (rbelow_calls x y sx sy _ HXY.out HFF.out).mono ?_
      rintro e W20 ⟨rfl, hB⟩
      clear cHA0 cHA1 cHA2 cHA20 cHA21 cHA22 cHRX0 cHRX1 cHRX2 cHRX3 cHRY0 cHRY1 cHRY2 cHRY3
      replace HA := Lib.hid (HA.out.below hB)
      replace HA2 := Lib.hid (HA2.out.below hB)
      replace HB := Lib.hid (HB.out.trans (hB.mono HB.out.size))
      replace HI := Lib.hid (HI.out.grow hB)
      replace HI2 := Lib.hid (HI2.out.grow hB)
      replace HT := Lib.hid (fun j hj => keep_below hB _ _ (HT.out j hj))
      replace HRX := Lib.hid (HRX.out.below hB)
      replace HRY := Lib.hid (HRY.out.below hB)
      replace HUO := Lib.hid (HUO.out.grow hB)
      replace HVO := Lib.hid (HVO.out.grow hB)
      rw [HX9.out, HY9.out, HD1.out]
      clear hB
      have cHA0 := HA.out.2.1
      have cHA1 := HA.out.2.2.1
      have cHA2 := HA.out.2.2.2.1
      have cHA20 := HA2.out.2.1
      have cHA21 := HA2.out.2.2.1
      have cHA22 := HA2.out.2.2.2.1
      have cHRX0 := HRX.out.2.1
      have cHRX1 := HRX.out.2.2.1
      have cHRX2 := HRX.out.2.2.2.1
      have cHRX3 := HRX.out.2.2.2.2.1
      have cHRY0 := HRY.out.2.1
      have cHRY1 := HRY.out.2.2.1
      have cHRY2 := HRY.out.2.2.2.1
      have cHRY3 := HRY.out.2.2.2.2.1
      go_wp2_with fail
      refine (rbelow_calls y x sy sx _ HXY.out.symm HFG.out).mono ?_
      rintro e W21 ⟨rfl, hB⟩
      clear cHA0 cHA1 cHA2 cHA20 cHA21 cHA22 cHRX0 cHRX1 cHRX2 cHRX3 cHRY0 cHRY1 cHRY2 cHRY3
      replace HA := Lib.hid (HA.out.below hB)
      replace HA2 := Lib.hid (HA2.out.below hB)
      replace HB := Lib.hid (HB.out.trans (hB.mono HB.out.size))
      replace HI := Lib.hid (HI.out.grow hB)
      replace HI2 := Lib.hid (HI2.out.grow hB)
      replace HT := Lib.hid (fun j hj => keep_below hB _ _ (HT.out j hj))
      replace HRX := Lib.hid (HRX.out.below hB)
      replace HRY := Lib.hid (HRY.out.below hB)
      replace HUO := Lib.hid (HUO.out.grow hB)
      replace HVO := Lib.hid (HVO.out.grow hB)
      rw [HX9.out, HY9.out, HD2.out]
      clear hB
      have cHA0 := HA.out.2.1
      have cHA1 := HA.out.2.2.1
      have cHA2 := HA.out.2.2.2.1
      have cHA20 := HA2.out.2.1
      have cHA21 := HA2.out.2.2.1
      have cHA22 := HA2.out.2.2.2.1
      have cHRX0 := HRX.out.2.1
      have cHRX1 := HRX.out.2.2.1
      have cHRX2 := HRX.out.2.2.2.1
      have cHRX3 := HRX.out.2.2.2.2.1
      have cHRY0 := HRY.out.2.1
      have cHRY1 := HRY.out.2.2.1
      have cHRY2 := HRY.out.2.2.2.1
      have cHRY3 := HRY.out.2.2.2.2.1
      go_wp2_with fail
      refine (awake16_calls _ HT.out).mono ?_
      rintro e W22 ⟨rfl, hB⟩
      clear cHA0 cHA1 cHA2 cHA20 cHA21 cHA22 cHRX0 cHRX1 cHRX2 cHRX3 cHRY0 cHRY1 cHRY2 cHRY3
      replace HA := Lib.hid (HA.out.below hB)
      replace HA2 := Lib.hid (HA2.out.below hB)
      replace HB := Lib.hid (HB.out.trans (hB.mono HB.out.size))
      replace HI := Lib.hid (HI.out.grow hB)
      replace HI2 := Lib.hid (HI2.out.grow hB)
      replace HT := Lib.hid (fun j hj => keep_below hB _ _ (HT.out j hj))
      replace HRX := Lib.hid (HRX.out.below hB)
      replace HRY := Lib.hid (HRY.out.below hB)
      replace HUO := Lib.hid (HUO.out.grow hB)
      replace HVO := Lib.hid (HVO.out.grow hB)
      clear hB
      have cHA0 := HA.out.2.1
      have cHA1 := HA.out.2.2.1
      have cHA2 := HA.out.2.2.2.1
      have cHA20 := HA2.out.2.1
      have cHA21 := HA2.out.2.2.1
      have cHA22 := HA2.out.2.2.2.1
      have cHRX0 := HRX.out.2.1
      have cHRX1 := HRX.out.2.2.1
      have cHRX2 := HRX.out.2.2.2.1
      have cHRX3 := HRX.out.2.2.2.2.1
      have cHRY0 := HRY.out.2.1
      have cHRY1 := HRY.out.2.2.1
      have cHRY2 := HRY.out.2.2.2.1
      have cHRY3 := HRY.out.2.2.2.2.1
      go_wp2_with fail
      go_ret
      exact ⟨rfl, HB.out⟩
  · have cHA0 := HA.out.2.1
    have cHA1 := HA.out.2.2.1
    have cHA2 := HA.out.2.2.2.1
    have cHA20 := HA2.out.2.1
    have cHA21 := HA2.out.2.2.1
    have cHA22 := HA2.out.2.2.2.1
    have cHRX0 := HRX.out.2.1
    have cHRX1 := HRX.out.2.2.1
    have cHRX2 := HRX.out.2.2.2.1
    have cHRX3 := HRX.out.2.2.2.2.1
    have cHRY0 := HRY.out.2.1
    have cHRY1 := HRY.out.2.2.1
    have cHRY2 := HRY.out.2.2.2.1
    have cHRY3 := HRY.out.2.2.2.2.1
    go_wp2_with fail
    obtain ⟨W19, hWD⟩ : ∃ xw9, W18.drew = xw9 := ⟨_, rfl⟩
    have hB : Below W18.heap.size W18 W19 := by rw [← hWD]; exact Below.drewN' (Below.refl _ _) 1
    clear cHA0 cHA1 cHA2 cHA20 cHA21 cHA22 cHRX0 cHRX1 cHRX2 cHRX3 cHRY0 cHRY1 cHRY2 cHRY3
    replace HA := Lib.hid (HA.out.below hB)
    replace HA2 := Lib.hid (HA2.out.below hB)
    replace HB := Lib.hid (HB.out.trans (hB.mono HB.out.size))
    replace HI := Lib.hid (HI.out.grow hB)
    replace HI2 := Lib.hid (HI2.out.grow hB)
    replace HT := Lib.hid (fun j hj => keep_below hB _ _ (HT.out j hj))
    replace HRX := Lib.hid (HRX.out.below hB)
    replace HRY := Lib.hid (HRY.out.below hB)
    replace HUO := Lib.hid (HUO.out.grow hB)
    replace HVO := Lib.hid (HVO.out.grow hB)
    clear hB
    refine wp_region_held_drew (S := fun w' => w'.cell? ⟨w.heap.size, 0, none⟩ = some (.slice so p.s.length sc) ∧ w'.cell? ⟨w.heap.size, 1, none⟩ = some (.slice io n ic) ∧ w'.cell? ⟨w.heap.size, 2, none⟩ = some (.int .i64 2)) (by kernel_rfl) (by rw [hWD]; exact ⟨HA.out.2.1, HA.out.2.2.1, HA.out.2.2.2.1⟩) (fun hHeld => ?_)
    rw [hWD] at hHeld ⊢
    clear hWD
    refine wpAnyH_take (i := 0) (v := ?_) rfl (by kernel_rfl) (by kernel_rfl) (by kernel_rfl) (fun _ _ _ h => h) (Or.inl ⟨by rfl, ?_⟩) (by assumption) ?_
    rotate_left
    · (intro w hSw; (try dsimp only at hSw); go_simp; try with_reducible rfl)
    simp only [Act.put, List.getElem_toArray, List.getElem_cons_zero, List.setIfInBounds_toArray, List.set_cons_zero, List.set_cons_succ]
    refine wpAnyH_take (i := 1) (v := ?_) rfl (by kernel_rfl) (by kernel_rfl) (by kernel_rfl) (fun _ _ _ h => h) (Or.inl ⟨by rfl, ?_⟩) (by assumption) ?_
    rotate_left
    · (intro w hSw; (try dsimp only at hSw); go_simp; try with_reducible rfl)
    simp only [Act.put, List.getElem_toArray, List.getElem_cons_succ, List.getElem_cons_zero, List.setIfInBounds_toArray, List.set_cons_zero, List.set_cons_succ]
    refine wpAnyH_take (i := 3) (v := ?_) rfl (by kernel_rfl) (by kernel_rfl) (by kernel_rfl) (fun _ _ _ h => h) (Or.inl ⟨by rfl, ?_⟩) (by assumption) ?_
    rotate_left
    · (intro w hSw; (try dsimp only at hSw); go_simp; try with_reducible rfl)
    simp only [Act.put, List.getElem_toArray, List.getElem_cons_succ, List.getElem_cons_zero, List.setIfInBounds_toArray, List.set_cons_zero, List.set_cons_succ]
    refine wpAnyH_take (i := 4) (v := ?_) rfl (by kernel_rfl) (by kernel_rfl) (by kernel_rfl) (fun _ _ _ h => h) (Or.inl ⟨by rfl, ?_⟩) (by assumption) ?_
    rotate_left
    · (intro w hSw; (try dsimp only at hSw); go_simp; try with_reducible rfl)
    simp only [Act.put, List.getElem_toArray, List.getElem_cons_succ, List.getElem_cons_zero, List.setIfInBounds_toArray, List.set_cons_zero, List.set_cons_succ]
    refine wpAnyH_take (i := 5) (v := ?_) rfl (by kernel_rfl) (by kernel_rfl) (by kernel_rfl) (fun _ _ _ h => h) (Or.inl ⟨by rfl, ?_⟩) (by assumption) ?_
    rotate_left
    · (intro w hSw; (try dsimp only at hSw); go_simp; try with_reducible rfl)
    simp only [Act.put, List.getElem_toArray, List.getElem_cons_succ, List.getElem_cons_zero, List.setIfInBounds_toArray, List.set_cons_zero, List.set_cons_succ]
    refine wpAnyH_ready (rs := [2]) (by kernel_rfl) (by simp) ?_
    refine AllReadyH.cons (o := _) rfl (fun K hK => ?_) AllReadyH.nil
    clear hHeld
    go_simp
    go_simp
    refine (ohas_calls _ _).mono ?_
    rintro e w9 ⟨rfl, rfl⟩
    try go_simp
    refine hK.out _ _ ?_ (fun hHeld => ?_)
    · exact ⟨HA.out.2.1, HA.out.2.2.1, HA.out.2.2.2.1⟩
    clear hK K
    refine wpAnyH_take (i := 6) (v := ?_) rfl (by kernel_rfl) (by kernel_rfl) (by kernel_rfl) (fun _ _ _ h => h) (Or.inl ⟨by rfl, ?_⟩) (by assumption) ?_
    rotate_left
    · (intro w hSw; (try dsimp only at hSw); go_simp; try with_reducible rfl)
    simp only [Act.put, List.getElem_toArray, List.getElem_cons_succ, List.getElem_cons_zero, List.setIfInBounds_toArray, List.set_cons_zero, List.set_cons_succ]
    refine wpAnyH_take (i := 7) (v := ?_) rfl (by kernel_rfl) (by kernel_rfl) (by kernel_rfl) (fun _ _ _ h => h) (Or.inl ⟨by rfl, ?_⟩) (by assumption) ?_
    rotate_left
    · (intro w hSw; (try dsimp only at hSw); go_simp; try with_reducible rfl)
    simp only [Act.put, List.getElem_toArray, List.getElem_cons_succ, List.getElem_cons_zero, List.setIfInBounds_toArray, List.set_cons_zero, List.set_cons_succ]
    refine wpAnyH_ready (rs := [8]) (by kernel_rfl) (by simp) ?_
    refine AllReadyH.cons (o := _) rfl (fun K hK => ?_) AllReadyH.nil
    clear hHeld
    go_simp
    go_simp
    refine (ohas_calls _ _).mono ?_
    rintro e w9 ⟨rfl, rfl⟩
    try go_simp
    refine hK.out _ _ ?_ (fun hHeld => ?_)
    · exact ⟨HA.out.2.1, HA.out.2.2.1, HA.out.2.2.2.1⟩
    clear hK K
    refine wpAnyH_take (i := 9) (v := ?_) rfl (by kernel_rfl) (by kernel_rfl) (by kernel_rfl) (fun _ _ _ h => h) (Or.inl ⟨by rfl, ?_⟩) (by assumption) ?_
    rotate_left
    · (intro w hSw; (try dsimp only at hSw); go_simp; try with_reducible rfl)
    simp only [Act.put, List.getElem_toArray, List.getElem_cons_succ, List.getElem_cons_zero, List.setIfInBounds_toArray, List.set_cons_zero, List.set_cons_succ]
    refine wpAnyH_done (by kernel_rfl) ?_ _
    clear hHeld
    by_cases hfg : g = 2
    rotate_left
    · have hne : ((2 : Int) != g) = true := by simp; omega
      have e1 : O = false := by rw [← HO.out]; unfold orB; rw [HAC.out, HBC.out]; exact decide_eq_false (fun h => by have := h.2; omega)
      have e2 : C = 0 := by rw [← HC.out]; unfold orC; rw [HO.out, e1]; rfl
      subst e1 e2
      have cHA0 := HA.out.2.1
      have cHA1 := HA.out.2.2.1
      have cHA2 := HA.out.2.2.2.1
      have cHA20 := HA2.out.2.1
      have cHA21 := HA2.out.2.2.1
      have cHA22 := HA2.out.2.2.2.1
      have cHRX0 := HRX.out.2.1
      have cHRX1 := HRX.out.2.2.1
      have cHRX2 := HRX.out.2.2.2.1
      have cHRX3 := HRX.out.2.2.2.2.1
      have cHRY0 := HRY.out.2.1
      have cHRY1 := HRY.out.2.2.1
      have cHRY2 := HRY.out.2.2.2.1
      have cHRY3 := HRY.out.2.2.2.2.1
      go_wp2_with fail
      refine (awake16_calls _ HT.out).mono ?_
      rintro e W20 ⟨rfl, hB⟩
      clear cHA0 cHA1 cHA2 cHA20 cHA21 cHA22 cHRX0 cHRX1 cHRX2 cHRX3 cHRY0 cHRY1 cHRY2 cHRY3
      replace HA := Lib.hid (HA.out.below hB)
      replace HA2 := Lib.hid (HA2.out.below hB)
      replace HB := Lib.hid (HB.out.trans (hB.mono HB.out.size))
      replace HI := Lib.hid (HI.out.grow hB)
      replace HI2 := Lib.hid (HI2.out.grow hB)
      replace HT := Lib.hid (fun j hj => keep_below hB _ _ (HT.out j hj))
      replace HRX := Lib.hid (HRX.out.below hB)
      replace HRY := Lib.hid (HRY.out.below hB)
      replace HUO := Lib.hid (HUO.out.grow hB)
      replace HVO := Lib.hid (HVO.out.grow hB)
      clear hB
      have cHA0 := HA.out.2.1
      have cHA1 := HA.out.2.2.1
      have cHA2 := HA.out.2.2.2.1
      have cHA20 := HA2.out.2.1
      have cHA21 := HA2.out.2.2.1
      have cHA22 := HA2.out.2.2.2.1
      have cHRX0 := HRX.out.2.1
      have cHRX1 := HRX.out.2.2.1
      have cHRX2 := HRX.out.2.2.2.1
      have cHRX3 := HRX.out.2.2.2.2.1
      have cHRY0 := HRY.out.2.1
      have cHRY1 := HRY.out.2.2.1
      have cHRY2 := HRY.out.2.2.2.1
      have cHRY3 := HRY.out.2.2.2.2.1
      go_wp2_with fail
      go_ret
      exact ⟨rfl, HB.out⟩
    subst hfg
    have e1 : O = false := by rw [← HO.out]; unfold orB; rw [HAC.out, HBC.out]; exact decide_eq_false (fun h => by have := h.2; omega)
    have e2 : C = 0 := by rw [← HC.out]; unfold orC; rw [HO.out, e1]; rfl
    subst e1 e2
    have cHA0 := HA.out.2.1
    have cHA1 := HA.out.2.2.1
    have cHA2 := HA.out.2.2.2.1
    have cHA20 := HA2.out.2.1
    have cHA21 := HA2.out.2.2.1
    have cHA22 := HA2.out.2.2.2.1
    have cHRX0 := HRX.out.2.1
    have cHRX1 := HRX.out.2.2.1
    have cHRX2 := HRX.out.2.2.2.1
    have cHRX3 := HRX.out.2.2.2.2.1
    have cHRY0 := HRY.out.2.1
    have cHRY1 := HRY.out.2.2.1
    have cHRY2 := HRY.out.2.2.2.1
    have cHRY3 := HRY.out.2.2.2.2.1
    go_wp2_with fail
    refine (awake16_calls _ HT.out).mono ?_
    rintro e W20 ⟨rfl, hB⟩
    clear cHA0 cHA1 cHA2 cHA20 cHA21 cHA22 cHRX0 cHRX1 cHRX2 cHRX3 cHRY0 cHRY1 cHRY2 cHRY3
    replace HA := Lib.hid (HA.out.below hB)
    replace HA2 := Lib.hid (HA2.out.below hB)
    replace HB := Lib.hid (HB.out.trans (hB.mono HB.out.size))
    replace HI := Lib.hid (HI.out.grow hB)
    replace HI2 := Lib.hid (HI2.out.grow hB)
    replace HT := Lib.hid (fun j hj => keep_below hB _ _ (HT.out j hj))
    replace HRX := Lib.hid (HRX.out.below hB)
    replace HRY := Lib.hid (HRY.out.below hB)
    replace HUO := Lib.hid (HUO.out.grow hB)
    replace HVO := Lib.hid (HVO.out.grow hB)
    clear hB
    have cHA0 := HA.out.2.1
    have cHA1 := HA.out.2.2.1
    have cHA2 := HA.out.2.2.2.1
    have cHA20 := HA2.out.2.1
    have cHA21 := HA2.out.2.2.1
    have cHA22 := HA2.out.2.2.2.1
    have cHRX0 := HRX.out.2.1
    have cHRX1 := HRX.out.2.2.1
    have cHRX2 := HRX.out.2.2.2.1
    have cHRX3 := HRX.out.2.2.2.2.1
    have cHRY0 := HRY.out.2.1
    have cHRY1 := HRY.out.2.2.1
    have cHRY2 := HRY.out.2.2.2.1
    have cHRY3 := HRY.out.2.2.2.2.1
    go_wp2_with fail
    go_ret
    exact ⟨rfl, HB.out⟩

theorem orderCompares_frame (w : World) (u : Value) (p : PA) (n : Nat) (hl : lo n p) (hp : IsP w (fun _ => True) u p) (v : Value) (q : PA) (m : Nat) (hl2 : lo m q) (hq : IsP w (fun _ => True) v q) (i : Int) (_ : (Lit.int .i64 i).wf = true) (k : Int) (_ : (Lit.int .i64 k).wf = true) (hT : TabAt w) :
    Calls Tryd.prog 3 #[u, v, .int .i64 i, .int .i64 k] w fun e w' => e = .returned (.bool true) ∧ Below w.heap.size w w' :=
  orderCompares_walk p q u v n m i k w hl hp hl2 hq hT
end Go.Proofs.YtibkbhglcmpeaaaDoor
