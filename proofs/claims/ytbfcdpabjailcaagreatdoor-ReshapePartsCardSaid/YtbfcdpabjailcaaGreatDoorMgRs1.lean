/- Merged: RsA, RsB, RsQ, RsC, RsD, RsE, RsW, RsF, RsG, RsO, RsZ, RsH, RsP. -/
import Derived.Laws.Cover1
import Derived.Test.YtbfcdpabjailcaaGreatDoorMgVa1
import Derived.Test.YtbfcdpabjailcaaGreatDoorMgFl1
import Derived.Test.YtbfcdpabjailcaaGreatDoorMgSh1
import Derived.Test.YtbfcdpabjailcaaGreatDoorMgVe1
import Derived.Test.YtbfcdpabjailcaaGreatDoorMgRx1
import Derived.Test.YtbfcdpabjailcaaGreatDoorMgAr1
import Derived.Test.YtbfcdpabjailcaaGreatDoorMgPi1
import Derived.Test.YtbfcdpabjailcaaGreatDoorMgBv1
import Derived.Test.YtbfcdpabjailcaaGreatDoorMgMo1
/- The reference of layer 20: Shape, Table. -/
namespace Go.Proofs.YtbfcdpabjailcaaGreatDoor
set_option maxRecDepth 100000
open Go.RowKit Fl
set_option linter.unusedVariables false

theorem info_f64_ex : ∃ i0, Tryz.prog.info? 38 = some i0 ∧ i0.zero = some (.float .f64 0) ∧ i0.size = 1 ∧ i0.bytes = 8 := info_parts info_f64
theorem f64s_app (a b : List Nat) : f64s (a ++ b) = f64s a ++ f64s b := by unfold f64s; rw [List.map_append]
/-- A shape as numbers. -/
def shF (s : List Int) : List Nat := s.map (floatOfInt .f64)
set_option maxHeartbeats 4000000 in
theorem rshape20_calls {ok : Nat → Prop} (u : Value) (p : PA) (w : World) (hp : IsP w ok u p) (hm : p.s.length ≤ 8) :
    Calls Tryz.prog 10 #[u] w fun e w' => ∃ u', e = .returned u' ∧ IsP w' (fun b => w.heap.size ≤ b) u' (numsP (shF p.s)) ∧ Below w.heap.size w w' := by
  obtain ⟨so, sc, io, ic, rfl, hs, _⟩ := hp.opened
  obtain ⟨n, hn⟩ : ∃ n, p.s.length = n := ⟨_, rfl⟩
  obtain ⟨S, hS⟩ : ∃ S, p.s = S := ⟨_, rfl⟩
  rw [hS] at hs hn ⊢
  rw [hS] at hm
  rw [hn] at hs hm ⊢
  obtain ⟨W1, hW1⟩ : ∃ W1, W1 = (w.alloc (.cells #[.slice so n sc, .slice io p.l.length ic, .int .i64 p.f] 25)).alloc (.cells #[.slice none 0 0, .slice none 0 0, .int .i64 0] 25) := ⟨_, rfl⟩
  have HB := Lib.hid (show Below w.heap.size w W1 by rw [hW1]; exact (below_new _ _).alloc (by simp) _)
  have HA := Lib.hid (show At3 W1 w.heap.size (.slice so n sc) (.slice io p.l.length ic) (.int .i64 p.f) by rw [hW1]; exact (At3.new w _ _ _ _).below (below_new _ _))
  have HR := Lib.hid (show At3 W1 (w.heap.size + 1) (.slice none 0 0) (.slice none 0 0) (.int .i64 0) by rw [hW1]; have := At3.new (w.alloc (.cells #[.slice so n sc, .slice io p.l.length ic, .int .i64 p.f] 25)) (.slice none 0 0) (.slice none 0 0) (.int .i64 0) 25; simpa using this)
  have HS := Lib.hid (show Slc W1 (fun _ => True) (.slice so n sc) n (ints S) from (hs.below HB.out).any)
  have HN := Lib.hid hn
  have HSZ1 := Lib.hid (show W1.heap.size = w.heap.size + 2 by rw [hW1]; simp)
  obtain ⟨F, hF⟩ : ∃ F : Nat → List Nat, ∀ k, F k = shF (S.take k) := ⟨_, fun _ => rfl⟩
  have HF0 := Lib.hid (show F 0 = [] by rw [hF]; rfl)
  have HFS := Lib.hid (show ∀ k x, S[k]? = some x → F (k + 1) = F k ++ [floatOfInt .f64 x] from fun k x hx => by rw [hF, hF, ptake hx]; unfold shF; rw [List.map_append]; rfl)
  have HFN := Lib.hid (show F n = shF S by rw [hF, ← hn, List.take_length])
  obtain ⟨G, hG⟩ : ∃ G, W1.heap.size = G := ⟨_, rfl⟩
  have HG := Lib.hid hG
  have hfold := hW1.symm
  clear hW1 hs hp hF hn
  have a0 := HA.out.2.1
  have a1 := HA.out.2.2.1
  have a2 := HA.out.2.2.2.1
  go_enter Tryz.func10, Tryz.ntmps10
  go_wp2_with fail
  clear hfold a0 a1 a2
  go_loopw [3, 4] (fun ov iv wr => ∃ k : Nat, k ≤ n ∧ iv = .int .i64 k ∧ wr.ownsRow G 38 1 ov k (f64s (F k)) ∧ Below G W1 wr) (fun _ iv _ => n - (intOf iv).toNat)
  case atStart => exact ⟨0, by omega, rfl, by rw [HF0.out]; exact World.ownsRow_nil _ _ _ _, Below.refl _ _⟩
  case round =>
    obtain ⟨k, hk, rfl, hown, hB⟩ := hrel
    obtain ⟨vo, vc, rfl⟩ := owns_form hown
    have HO := Lib.hid hown
    have HBG := Lib.hid hB
    have hB1 : Below W1.heap.size W1 wr := by rw [HG.out]; exact hB
    have HA2 := Lib.hid (HA.out.below hB1)
    have HR2 := Lib.hid (HR.out.below hB1)
    have HS2 := Lib.hid (HS.out.below hB1)
    have HSG := Lib.hid (show G ≤ wr.heap.size by rw [← HG.out]; exact hB.size)
    have HSG0 := Lib.hid (show w.heap.size ≤ wr.heap.size by have := hB.size; have := HSZ1.out; omega)
    have HBB := Lib.hid (HB.out.trans (hB1.mono (by have := HSZ1.out; omega)))
    have a0 := HA2.out.2.1
    clear hown hB hB1
    by_cases hlt : k < n
    · obtain ⟨x, hx⟩ : ∃ x, S[k]? = some x := ⟨_, List.getElem?_eq_getElem (by rw [HN.out]; exact hlt)⟩
      obtain ⟨b, off, cap2, x', e9, hx', hcx⟩ := Slc.at_map (Value.int .i64) (l := S) (by rw [HN.out]; exact HS2.out) k (by rw [HN.out]; exact hlt)
      rw [HN.out] at e9
      cases e9
      obtain rfl : x' = x := Option.some.inj (hx'.symm.trans hx)
      have HX := Lib.hid hx
      have HLT := Lib.hid hlt
      obtain ⟨z, hz⟩ : ∃ z, floatOfInt .f64 x' = z := ⟨_, rfl⟩
      have HZ := Lib.hid hz
      obtain ⟨W4, hW4⟩ : ∃ W4, W4 = wr.alloc (.cells #[.float .f64 z] 38) := ⟨_, rfl⟩
      have HB4 := Lib.hid (show Below wr.heap.size wr W4 by rw [hW4]; exact below_new _ _)
      have HO4 := Lib.hid (show W4.ownsRow G 38 1 (.slice vo k vc) k (f64s (F k)) by rw [hW4]; exact HO.out.alloc _)
      have HN4 := Lib.hid (show ∀ j u, ([.float .f64 z] : List Value)[j]? = some u → W4.cell? ((⟨wr.heap.size, 0, none⟩ : Addr).add j) = some u by rw [hW4]; exact cell_one_new _ _ _)
      have HSZ4 := Lib.hid (show G ≤ W4.heap.size from Nat.le_trans HSG.out HB4.out.size)
      have HM1 := Lib.hid (show k + 1 ≤ maxLen by unfold maxLen; omega)
      have HM2 := Lib.hid (show (k + 1) * 8 ≤ 140737488355328 by omega)
      have HON := Lib.hid (show ∀ u ∈ ([.float .f64 z] : List Value), u.oneCell' = true by intro u hu; simp only [List.mem_cons, List.not_mem_nil, or_false] at hu; subst hu; rfl)
      have hfold4 := hW4.symm
      clear hW4 hx hx'
      go_wp2_with (at_builtin; refine wpList_append_blk _ rfl _ _ 44 rfl G 38 info_f64_ex.choose _ 1 8 Tryz.underlying44 info_f64_ex.choose_spec.1 info_f64_ex.choose_spec.2.1 info_f64_ex.choose_spec.2.2.1 info_f64_ex.choose_spec.2.2.2 rfl (by decide) _ k (f64s (F k)) rfl HO4.out ⟨wr.heap.size, 0, none⟩ 1 1 [.float .f64 z] rfl rfl HN4.out HON.out HM1.out HM2.out HSZ4.out ?_)
      intro vv w5 hown hgrow hblk
      obtain ⟨vo1, vc1, rfl⟩ := owns_form hown
      have HO5 := Lib.hid hown
      have HBG5 := Lib.hid ((HBG.out.trans (HB4.out.mono HSG.out)).grown hgrow HSZ4.out (fun j hj => (HO4.out.lt j hj).1))
      clear hown hgrow hblk hfold4 a0
      have hlt9 := HLT.out
      go_wp2
      go_roundw
      case rel =>
        refine ⟨k + 1, by omega, by go_num, ?_, HBG5.out⟩
        rw [HFS.out k _ HX.out, HZ.out, f64s_app]; exact HO5.out
      case measure => simp [intOf]; omega
    · have hkn : n = k := by omega
      subst hkn
      have HV := Lib.hid (show Slc wr (fun _ => True) (.slice vo n vc) (shF S).length (f64s (shF S)) by
        rw [← HFN.out]
        have h9 := (Slc.owned HO.out).any
        have e9 : (F n).length = n := by rw [HFN.out]; unfold shF; rw [List.length_map]; exact HN.out
        rw [e9]; exact h9)
      have HLS := Lib.hid (show (shF S).length ≤ 100000 by unfold shF; rw [List.length_map, HN.out]; omega)
      have e8 : (shF S).length = n := by unfold shF; rw [List.length_map]; exact HN.out
      have HE8 := Lib.hid e8
      clear e8
      go_wp2_with fail
      refine (rNums_calls _ (shF S) _ HV.out HLS.out).mono ?_
      rintro e W6 ⟨u', rfl, hu, hB6⟩
      have HR6 := Lib.hid (HR2.out.below hB6)
      have HB6 := Lib.hid (HBB.out.trans (hB6.mono HSG0.out))
      obtain ⟨qo, qc, jo, jc, rfl, _, _⟩ := hu.opened
      have HU := Lib.hid (show IsP W6 (fun b => w.heap.size + 1 < b) _ (numsP (shF S)) from hu.wide (fun b _ h => by have := HSG.out; have := HG.out; have := HSZ1.out; omega))
      clear hB6 hu
      have r0 := HR6.out.2.1
      have r1 := HR6.out.2.2.1
      have r2 := HR6.out.2.2.2.1
      have z0 := HR6.out.2.2.2.2 0
      have z1 := HR6.out.2.2.2.2 1
      have z2 := HR6.out.2.2.2.2 2
      go_wp2_with fail
      clear r0 r1 r2 z0 z1 z2
      have HKP : Kept (fun b => w.heap.size + 1 < b) W6 (((W6.setCell ⟨w.heap.size + 1, 0, none⟩ (.slice qo (numsP (shF S)).s.length qc)).setCell ⟨w.heap.size + 1, 1, none⟩ (.slice jo (numsP (shF S)).l.length jc)).setCell ⟨w.heap.size + 1, 2, none⟩ (.int .i64 (numsP (shF S)).f)) :=
        ((Kept.setCell _ _ _ (by simp)).trans (Kept.setCell _ _ _ (by simp))).trans (Kept.setCell _ _ _ (by simp))
      have HP7 := Lib.hid (HU.out.keep HKP (fun _ _ h => h))
      have HR7 := Lib.hid (At3.put3 HR6.out (.slice qo (numsP (shF S)).s.length qc) (.slice jo (numsP (shF S)).l.length jc) (.int .i64 (numsP (shF S)).f))
      have HB7 := Lib.hid (((HB6.out.setCell (p := ⟨w.heap.size + 1, 0, none⟩) (Nat.le_succ _) (.slice qo (numsP (shF S)).s.length qc)).setCell (p := ⟨w.heap.size + 1, 1, none⟩) (Nat.le_succ _) (.slice jo (numsP (shF S)).l.length jc)).setCell (p := ⟨w.heap.size + 1, 2, none⟩) (Nat.le_succ _) (.int .i64 (numsP (shF S)).f))
      obtain ⟨W7, hW7⟩ : ∃ W7, (((W6.setCell ⟨w.heap.size + 1, 0, none⟩ (.slice qo (numsP (shF S)).s.length qc)).setCell ⟨w.heap.size + 1, 1, none⟩ (.slice jo (numsP (shF S)).l.length jc)).setCell ⟨w.heap.size + 1, 2, none⟩ (.int .i64 (numsP (shF S)).f)) = W7 := ⟨_, rfl⟩
      rw [hW7] at HP7 HR7 HB7 ⊢
      have r0 := HR7.out.2.1
      have r1 := HR7.out.2.2.1
      have r2 := HR7.out.2.2.2.1
      refine bodyPost_ret (v := .agg #[.slice qo (numsP (shF S)).s.length qc, .slice jo (numsP (shF S)).l.length jc, .int .i64 (numsP (shF S)).f]) (by simp [results, Tryz.results10, go_sem, r0, r1, r2]) rfl ⟨_, rfl, ?_, HB7.out⟩
      exact HP7.out.wide (fun b _ h => by omega)
end Go.Proofs.YtbfcdpabjailcaaGreatDoor

/- The reference of layer 20: Table. Written by tools/gen_rsb.py. -/
namespace Go.Proofs.YtbfcdpabjailcaaGreatDoor
set_option maxRecDepth 100000
open Go.RowKit Fl
set_option linter.unusedVariables false

/-- The shape of a table. -/
def tabN : List Int → Int
  | [] => 1
  | a :: _ => a
def tabM : List Int → Int
  | [] => 1
  | _ :: r => if (prodR r 1048576).2 = 0 then (prodR r 1048576).1 else 1
set_option maxHeartbeats 8000000 in
theorem rtable20_calls {ok : Nat → Prop} (u : Value) (p : PA) (w : World) (hp : IsP w ok u p) (hm : p.s.length ≤ 8) :
    Calls Tryz.prog 15 #[u] w fun e w' => ∃ u', e = .returned u' ∧ IsP w' (fun b => (ok b ∧ b < w.heap.size) ∨ w.heap.size ≤ b) u' (.mk [tabN p.s, tabM p.s] p.l p.f) ∧ Below w.heap.size w w' := by
  obtain ⟨so, sc, io, ic, rfl, hs, hit⟩ := hp.opened
  obtain ⟨S, hS⟩ : ∃ S, p.s = S := ⟨_, rfl⟩
  rw [hS] at hs hm ⊢
  obtain ⟨n, hn⟩ : ∃ n, S.length = n := ⟨_, rfl⟩
  rw [hn] at hs hm ⊢
  obtain ⟨W1, hW1⟩ : ∃ W1, W1 = (w.alloc (.cells #[.slice so n sc, .slice io p.l.length ic, .int .i64 p.f] 25)).alloc (.cells #[.slice none 0 0, .slice none 0 0, .int .i64 0] 25) := ⟨_, rfl⟩
  have HB := Lib.hid (show Below w.heap.size w W1 by rw [hW1]; exact (below_new _ _).alloc (by simp) _)
  have HA := Lib.hid (show At3 W1 w.heap.size (.slice so n sc) (.slice io p.l.length ic) (.int .i64 p.f) by rw [hW1]; exact (At3.new w _ _ _ _).below (below_new _ _))
  have HR := Lib.hid (show At3 W1 (w.heap.size + 1) (.slice none 0 0) (.slice none 0 0) (.int .i64 0) by rw [hW1]; have := At3.new (w.alloc (.cells #[.slice so n sc, .slice io p.l.length ic, .int .i64 p.f] 25)) (.slice none 0 0) (.slice none 0 0) (.int .i64 0) 25; simpa using this)
  have HS := Lib.hid (show Slc W1 (fun _ => True) (.slice so n sc) n (ints S) from (hs.below HB.out).any)
  have HI := Lib.hid (show Its W1 (fun b => ok b ∧ b < w.heap.size) (.slice io p.l.length ic) p.l from hit.lt.grow HB.out)
  have HSZ1 := Lib.hid (show W1.heap.size = w.heap.size + 2 by rw [hW1]; simp)
  have HN := Lib.hid hn
  have hfold := hW1.symm
  have a0 := HA.out.2.1
  clear hW1 hs hp hit
  cases S with
  | nil =>
    have hn0 : n = 0 := by rw [← hn]; rfl
    subst hn0
    clear hn
    have HZ9 := Lib.hid (show tabN [] = 1 ∧ tabM [] = 1 from ⟨rfl, rfl⟩)
    have a1 := HA.out.2.2.1
    have a2 := HA.out.2.2.2.1
    have r0 := HR.out.2.1
    have r1 := HR.out.2.2.1
    have r2 := HR.out.2.2.2.1
    have z0 := HR.out.2.2.2.2 0
    have z1 := HR.out.2.2.2.2 1
    have z2 := HR.out.2.2.2.2 2
    go_enter Tryz.func15, Tryz.ntmps15
    obtain ⟨W4, hW4⟩ : ∃ W4, W1.alloc (.cells #[.int .i64 1, .int .i64 1] 3) = W4 := ⟨_, rfl⟩
    have HB4 := Lib.hid (show Below W1.heap.size W1 W4 by rw [← hW4]; exact below_new _ _)
    have HS4 := Lib.hid (show Slc W4 (fun b => (ok b ∧ b < w.heap.size) ∨ w.heap.size + 1 < b) (.slice (some ⟨W1.heap.size, 0, none⟩) 2 2) 2 (ints [1, 1]) by
      rw [← hW4]
      exact (Slc.owned (World.ownsRow_lit (base := W1.heap.size) (e := 3) (size := 1) W1 #[.int .i64 1, .int .i64 1] 2 (Nat.le_refl _) (by unfold maxLen; omega) rfl)).keep (Kept.refl _ _) (fun b _ h => Or.inr (by have := HSZ1.out; omega)))
    have HI4 := Lib.hid (show Its W4 (fun b => (ok b ∧ b < w.heap.size) ∨ w.heap.size + 1 < b) (.slice io p.l.length ic) p.l from (HI.out.grow HB4.out).wide (fun b _ h => Or.inl h))
    have HR4 := Lib.hid (HR.out.below HB4.out)
    have HA4 := Lib.hid (HA.out.below HB4.out)
    have HBA := Lib.hid (HB.out.trans (HB4.out.mono (by have := HSZ1.out; omega)))
    have HP4 := Lib.hid (IsP.of (s := [1, 1]) (f := p.f) HS4.out HI4.out)
    have c1 := HA4.out.2.2.1
    have c2 := HA4.out.2.2.2.1
    have s0 := HR4.out.2.1
    have s1 := HR4.out.2.2.1
    have s2 := HR4.out.2.2.2.1
    have t0 := HR4.out.2.2.2.2 0
    have t1 := HR4.out.2.2.2.2 1
    have t2 := HR4.out.2.2.2.2 2
    clear a1 a2 r0 r1 r2 z0 z1 z2
    go_wp2_with fail
    clear hW4 hfold a0 c1 c2 s0 s1 s2 t0 t1 t2
    have HKP : ∀ (x y z : Value), Kept (fun b => (ok b ∧ b < w.heap.size) ∨ w.heap.size + 1 < b) W4 (((W4.setCell ⟨w.heap.size + 1, 0, none⟩ x).setCell ⟨w.heap.size + 1, 1, none⟩ y).setCell ⟨w.heap.size + 1, 2, none⟩ z) := fun x y z =>
      ((Kept.setCell _ _ _ (by rintro (⟨_, h⟩ | h) <;> simp at h <;> omega)).trans (Kept.setCell _ _ _ (by rintro (⟨_, h⟩ | h) <;> simp at h <;> omega))).trans (Kept.setCell _ _ _ (by rintro (⟨_, h⟩ | h) <;> simp at h <;> omega))
    have HP7 := Lib.hid (HP4.out.keep (HKP (.slice (some ⟨W1.heap.size, 0, none⟩) 2 2) (.slice io p.l.length ic) (.int .i64 p.f)) (fun _ _ h => h))
    have HR7 := Lib.hid (At3.put3 HR4.out (.slice (some ⟨W1.heap.size, 0, none⟩) 2 2) (.slice io p.l.length ic) (.int .i64 p.f))
    have HB7 := Lib.hid (((HBA.out.setCell (p := ⟨w.heap.size + 1, 0, none⟩) (Nat.le_succ _) (.slice (some ⟨W1.heap.size, 0, none⟩) 2 2)).setCell (p := ⟨w.heap.size + 1, 1, none⟩) (Nat.le_succ _) (.slice io p.l.length ic)).setCell (p := ⟨w.heap.size + 1, 2, none⟩) (Nat.le_succ _) (.int .i64 p.f))
    obtain ⟨W7, hW7⟩ : ∃ W7, (((W4.setCell ⟨w.heap.size + 1, 0, none⟩ (.slice (some ⟨W1.heap.size, 0, none⟩) 2 2)).setCell ⟨w.heap.size + 1, 1, none⟩ (.slice io p.l.length ic)).setCell ⟨w.heap.size + 1, 2, none⟩ (.int .i64 p.f)) = W7 := ⟨_, rfl⟩
    rw [hW7] at HP7 HR7 HB7 ⊢
    have r0 := HR7.out.2.1
    have r1 := HR7.out.2.2.1
    have r2 := HR7.out.2.2.2.1
    refine bodyPost_ret (v := .agg #[.slice (some ⟨W1.heap.size, 0, none⟩) 2 2, .slice io p.l.length ic, .int .i64 p.f]) (by simp [results, Tryz.results15, go_sem, r0, r1, r2]) rfl ⟨_, rfl, ?_, HB7.out⟩
    have h9 := HP7.out.wide (ok' := fun b => (ok b ∧ b < w.heap.size) ∨ w.heap.size ≤ b) (fun b _ h => by rcases h with h | h; exact Or.inl h; exact Or.inr (by omega))
    exact h9
  | cons a r =>
    have hn1 : n = r.length + 1 := by rw [← hn]; rfl
    have HN1 := Lib.hid hn1
    obtain ⟨b, off, cap2, x, e9, hx, hcx⟩ := Slc.at_map (Value.int .i64) (l := a :: r) (by rw [hn]; exact HS.out) 0 (by rw [hn]; omega)
    rw [hn] at e9
    cases e9
    obtain rfl : a = x := by simpa using hx
    rw [Nat.add_zero] at hcx
    have hS2 : Slc W1 (fun _ => True) (.slice (some ⟨b, off, none⟩) (a :: r).length sc) (a :: r).length (ints (a :: r)) := by rw [hn]; exact HS.out
    have hcap : n ≤ sc := by obtain ⟨_, ao, c1, e, h1, _⟩ := HS.out; cases e; exact h1
    have hnp : 0 < n := by omega
    obtain ⟨P, hP⟩ : ∃ P, prodR r 1048576 = P := ⟨_, rfl⟩
    obtain ⟨pm, pe⟩ := P
    have HTM := Lib.hid (show tabM (a :: r) = if pe = 0 then pm else 1 by show (if (prodR r 1048576).2 = 0 then (prodR r 1048576).1 else 1) = _; rw [hP])
    have HPR := Lib.hid hP
    have HRL := Lib.hid (show r.length ≤ 9223372036854775807 by omega)
    clear hx
    by_cases hc1 : sc = 1
    · have hr : r = [] := List.eq_nil_of_length_eq_zero (by omega)
      subst hr
      have hn2 : n = 1 := by rw [hn1]; rfl
      subst hn2 hc1
      have HS3 := Lib.hid (show Slc W1 (fun _ => True) (.slice (some ⟨b, off, none⟩) 0 0) ([] : List Int).length (ints []) from ⟨⟨rfl, _, _, rfl, fun i hi => absurd hi (by simp [ints])⟩, _, _, rfl, Nat.le_refl _, by unfold maxLen; omega⟩)
      clear hn hn1 hS2 hcap hP
      go_enter Tryz.func15, Tryz.ntmps15
      go_wp2_with fail
      clear hfold a0
      refine (rproduct_calls _ [] 1048576 _ HS3.out HRL.out).mono ?_
      rintro e w9 ⟨rfl, rfl⟩
      rw [HPR.out]
      by_cases hpe : pe = 0
      · have hpe2 : (pe == 0) = true := by simpa using hpe
        have HTM2 := Lib.hid (show tabM [a] = pm by rw [HTM.out, if_pos hpe])
        clear hpe
        have a0 := HA.out.2.1
        have a1 := HA.out.2.2.1
        have a2 := HA.out.2.2.2.1
        have r0 := HR.out.2.1
        have r1 := HR.out.2.2.1
        have r2 := HR.out.2.2.2.1
        have z0 := HR.out.2.2.2.2 0
        have z1 := HR.out.2.2.2.2 1
        have z2 := HR.out.2.2.2.2 2
        obtain ⟨W4, hW4⟩ : ∃ W4, W1.alloc (.cells #[.int .i64 a, .int .i64 pm] 3) = W4 := ⟨_, rfl⟩
        have HB4 := Lib.hid (show Below W1.heap.size W1 W4 by rw [← hW4]; exact below_new _ _)
        have HS4 := Lib.hid (show Slc W4 (fun b => (ok b ∧ b < w.heap.size) ∨ w.heap.size + 1 < b) (.slice (some ⟨W1.heap.size, 0, none⟩) 2 2) 2 (ints [a, pm]) by
          rw [← hW4]
          exact (Slc.owned (World.ownsRow_lit (base := W1.heap.size) (e := 3) (size := 1) W1 #[.int .i64 a, .int .i64 pm] 2 (Nat.le_refl _) (by unfold maxLen; omega) rfl)).keep (Kept.refl _ _) (fun b _ h => Or.inr (by have := HSZ1.out; omega)))
        have HI4 := Lib.hid (show Its W4 (fun b => (ok b ∧ b < w.heap.size) ∨ w.heap.size + 1 < b) (.slice io p.l.length ic) p.l from (HI.out.grow HB4.out).wide (fun b _ h => Or.inl h))
        have HR4 := Lib.hid (HR.out.below HB4.out)
        have HA4 := Lib.hid (HA.out.below HB4.out)
        have HBA := Lib.hid (HB.out.trans (HB4.out.mono (by have := HSZ1.out; omega)))
        have HP4 := Lib.hid (IsP.of (s := [a, pm]) (f := p.f) HS4.out HI4.out)
        have c1 := HA4.out.2.2.1
        have c2 := HA4.out.2.2.2.1
        have s0 := HR4.out.2.1
        have s1 := HR4.out.2.2.1
        have s2 := HR4.out.2.2.2.1
        have t0 := HR4.out.2.2.2.2 0
        have t1 := HR4.out.2.2.2.2 1
        have t2 := HR4.out.2.2.2.2 2
        clear a1 a2 r0 r1 r2 z0 z1 z2
        go_wp2_with fail
        clear hW4 a0 c1 c2 s0 s1 s2 t0 t1 t2
        have HKP : ∀ (x y z : Value), Kept (fun b => (ok b ∧ b < w.heap.size) ∨ w.heap.size + 1 < b) W4 (((W4.setCell ⟨w.heap.size + 1, 0, none⟩ x).setCell ⟨w.heap.size + 1, 1, none⟩ y).setCell ⟨w.heap.size + 1, 2, none⟩ z) := fun x y z =>
          ((Kept.setCell _ _ _ (by rintro (⟨_, h⟩ | h) <;> simp at h <;> omega)).trans (Kept.setCell _ _ _ (by rintro (⟨_, h⟩ | h) <;> simp at h <;> omega))).trans (Kept.setCell _ _ _ (by rintro (⟨_, h⟩ | h) <;> simp at h <;> omega))
        have HP7 := Lib.hid (HP4.out.keep (HKP (.slice (some ⟨W1.heap.size, 0, none⟩) 2 2) (.slice io p.l.length ic) (.int .i64 p.f)) (fun _ _ h => h))
        have HR7 := Lib.hid (At3.put3 HR4.out (.slice (some ⟨W1.heap.size, 0, none⟩) 2 2) (.slice io p.l.length ic) (.int .i64 p.f))
        have HB7 := Lib.hid (((HBA.out.setCell (p := ⟨w.heap.size + 1, 0, none⟩) (Nat.le_succ _) (.slice (some ⟨W1.heap.size, 0, none⟩) 2 2)).setCell (p := ⟨w.heap.size + 1, 1, none⟩) (Nat.le_succ _) (.slice io p.l.length ic)).setCell (p := ⟨w.heap.size + 1, 2, none⟩) (Nat.le_succ _) (.int .i64 p.f))
        obtain ⟨W7, hW7⟩ : ∃ W7, (((W4.setCell ⟨w.heap.size + 1, 0, none⟩ (.slice (some ⟨W1.heap.size, 0, none⟩) 2 2)).setCell ⟨w.heap.size + 1, 1, none⟩ (.slice io p.l.length ic)).setCell ⟨w.heap.size + 1, 2, none⟩ (.int .i64 p.f)) = W7 := ⟨_, rfl⟩
        rw [hW7] at HP7 HR7 HB7 ⊢
        have r0 := HR7.out.2.1
        have r1 := HR7.out.2.2.1
        have r2 := HR7.out.2.2.2.1
        refine bodyPost_ret (v := .agg #[.slice (some ⟨W1.heap.size, 0, none⟩) 2 2, .slice io p.l.length ic, .int .i64 p.f]) (by simp [results, Tryz.results15, go_sem, r0, r1, r2]) rfl ⟨_, rfl, ?_, HB7.out⟩
        have h9 := HP7.out.wide (ok' := fun b => (ok b ∧ b < w.heap.size) ∨ w.heap.size ≤ b) (fun b _ h => by rcases h with h | h; exact Or.inl h; exact Or.inr (by omega))
        rw [HTM2.out]; exact h9
      · have hpe2 : (pe == 0) = false := by simpa using hpe
        have HTM2 := Lib.hid (show tabM [a] = 1 by rw [HTM.out, if_neg hpe])
        clear hpe
        have a0 := HA.out.2.1
        have a1 := HA.out.2.2.1
        have a2 := HA.out.2.2.2.1
        have r0 := HR.out.2.1
        have r1 := HR.out.2.2.1
        have r2 := HR.out.2.2.2.1
        have z0 := HR.out.2.2.2.2 0
        have z1 := HR.out.2.2.2.2 1
        have z2 := HR.out.2.2.2.2 2
        obtain ⟨W4, hW4⟩ : ∃ W4, W1.alloc (.cells #[.int .i64 a, .int .i64 1] 3) = W4 := ⟨_, rfl⟩
        have HB4 := Lib.hid (show Below W1.heap.size W1 W4 by rw [← hW4]; exact below_new _ _)
        have HS4 := Lib.hid (show Slc W4 (fun b => (ok b ∧ b < w.heap.size) ∨ w.heap.size + 1 < b) (.slice (some ⟨W1.heap.size, 0, none⟩) 2 2) 2 (ints [a, 1]) by
          rw [← hW4]
          exact (Slc.owned (World.ownsRow_lit (base := W1.heap.size) (e := 3) (size := 1) W1 #[.int .i64 a, .int .i64 1] 2 (Nat.le_refl _) (by unfold maxLen; omega) rfl)).keep (Kept.refl _ _) (fun b _ h => Or.inr (by have := HSZ1.out; omega)))
        have HI4 := Lib.hid (show Its W4 (fun b => (ok b ∧ b < w.heap.size) ∨ w.heap.size + 1 < b) (.slice io p.l.length ic) p.l from (HI.out.grow HB4.out).wide (fun b _ h => Or.inl h))
        have HR4 := Lib.hid (HR.out.below HB4.out)
        have HA4 := Lib.hid (HA.out.below HB4.out)
        have HBA := Lib.hid (HB.out.trans (HB4.out.mono (by have := HSZ1.out; omega)))
        have HP4 := Lib.hid (IsP.of (s := [a, 1]) (f := p.f) HS4.out HI4.out)
        have c1 := HA4.out.2.2.1
        have c2 := HA4.out.2.2.2.1
        have s0 := HR4.out.2.1
        have s1 := HR4.out.2.2.1
        have s2 := HR4.out.2.2.2.1
        have t0 := HR4.out.2.2.2.2 0
        have t1 := HR4.out.2.2.2.2 1
        have t2 := HR4.out.2.2.2.2 2
        clear a1 a2 r0 r1 r2 z0 z1 z2
        go_wp2_with fail
        clear hW4 a0 c1 c2 s0 s1 s2 t0 t1 t2
        have HKP : ∀ (x y z : Value), Kept (fun b => (ok b ∧ b < w.heap.size) ∨ w.heap.size + 1 < b) W4 (((W4.setCell ⟨w.heap.size + 1, 0, none⟩ x).setCell ⟨w.heap.size + 1, 1, none⟩ y).setCell ⟨w.heap.size + 1, 2, none⟩ z) := fun x y z =>
          ((Kept.setCell _ _ _ (by rintro (⟨_, h⟩ | h) <;> simp at h <;> omega)).trans (Kept.setCell _ _ _ (by rintro (⟨_, h⟩ | h) <;> simp at h <;> omega))).trans (Kept.setCell _ _ _ (by rintro (⟨_, h⟩ | h) <;> simp at h <;> omega))
        have HP7 := Lib.hid (HP4.out.keep (HKP (.slice (some ⟨W1.heap.size, 0, none⟩) 2 2) (.slice io p.l.length ic) (.int .i64 p.f)) (fun _ _ h => h))
        have HR7 := Lib.hid (At3.put3 HR4.out (.slice (some ⟨W1.heap.size, 0, none⟩) 2 2) (.slice io p.l.length ic) (.int .i64 p.f))
        have HB7 := Lib.hid (((HBA.out.setCell (p := ⟨w.heap.size + 1, 0, none⟩) (Nat.le_succ _) (.slice (some ⟨W1.heap.size, 0, none⟩) 2 2)).setCell (p := ⟨w.heap.size + 1, 1, none⟩) (Nat.le_succ _) (.slice io p.l.length ic)).setCell (p := ⟨w.heap.size + 1, 2, none⟩) (Nat.le_succ _) (.int .i64 p.f))
        obtain ⟨W7, hW7⟩ : ∃ W7, (((W4.setCell ⟨w.heap.size + 1, 0, none⟩ (.slice (some ⟨W1.heap.size, 0, none⟩) 2 2)).setCell ⟨w.heap.size + 1, 1, none⟩ (.slice io p.l.length ic)).setCell ⟨w.heap.size + 1, 2, none⟩ (.int .i64 p.f)) = W7 := ⟨_, rfl⟩
        rw [hW7] at HP7 HR7 HB7 ⊢
        have r0 := HR7.out.2.1
        have r1 := HR7.out.2.2.1
        have r2 := HR7.out.2.2.2.1
        refine bodyPost_ret (v := .agg #[.slice (some ⟨W1.heap.size, 0, none⟩) 2 2, .slice io p.l.length ic, .int .i64 p.f]) (by simp [results, Tryz.results15, go_sem, r0, r1, r2]) rfl ⟨_, rfl, ?_, HB7.out⟩
        have h9 := HP7.out.wide (ok' := fun b => (ok b ∧ b < w.heap.size) ∨ w.heap.size ≤ b) (fun b _ h => by rcases h with h | h; exact Or.inl h; exact Or.inr (by omega))
        rw [HTM2.out]; exact h9
    · have HS3 := Lib.hid (show Slc W1 (fun _ => True) (.slice (some ⟨b, off + 1, none⟩) (n - 1) (sc - 1)) r.length (ints r) by
        have h9 := hS2.drop 1 (by rw [hn]; omega)
        rw [hn] at h9
        exact h9)
      clear hn hn1 hS2 hcap hP
      go_enter Tryz.func15, Tryz.ntmps15
      go_wp2_with fail
      clear hfold a0
      refine (rproduct_calls _ r 1048576 _ HS3.out HRL.out).mono ?_
      rintro e w9 ⟨rfl, rfl⟩
      rw [HPR.out]
      by_cases hpe : pe = 0
      · have hpe2 : (pe == 0) = true := by simpa using hpe
        have HTM2 := Lib.hid (show tabM (a :: r) = pm by rw [HTM.out, if_pos hpe])
        clear hpe
        have a0 := HA.out.2.1
        have a1 := HA.out.2.2.1
        have a2 := HA.out.2.2.2.1
        have r0 := HR.out.2.1
        have r1 := HR.out.2.2.1
        have r2 := HR.out.2.2.2.1
        have z0 := HR.out.2.2.2.2 0
        have z1 := HR.out.2.2.2.2 1
        have z2 := HR.out.2.2.2.2 2
        obtain ⟨W4, hW4⟩ : ∃ W4, W1.alloc (.cells #[.int .i64 a, .int .i64 pm] 3) = W4 := ⟨_, rfl⟩
        have HB4 := Lib.hid (show Below W1.heap.size W1 W4 by rw [← hW4]; exact below_new _ _)
        have HS4 := Lib.hid (show Slc W4 (fun b => (ok b ∧ b < w.heap.size) ∨ w.heap.size + 1 < b) (.slice (some ⟨W1.heap.size, 0, none⟩) 2 2) 2 (ints [a, pm]) by
          rw [← hW4]
          exact (Slc.owned (World.ownsRow_lit (base := W1.heap.size) (e := 3) (size := 1) W1 #[.int .i64 a, .int .i64 pm] 2 (Nat.le_refl _) (by unfold maxLen; omega) rfl)).keep (Kept.refl _ _) (fun b _ h => Or.inr (by have := HSZ1.out; omega)))
        have HI4 := Lib.hid (show Its W4 (fun b => (ok b ∧ b < w.heap.size) ∨ w.heap.size + 1 < b) (.slice io p.l.length ic) p.l from (HI.out.grow HB4.out).wide (fun b _ h => Or.inl h))
        have HR4 := Lib.hid (HR.out.below HB4.out)
        have HA4 := Lib.hid (HA.out.below HB4.out)
        have HBA := Lib.hid (HB.out.trans (HB4.out.mono (by have := HSZ1.out; omega)))
        have HP4 := Lib.hid (IsP.of (s := [a, pm]) (f := p.f) HS4.out HI4.out)
        have c1 := HA4.out.2.2.1
        have c2 := HA4.out.2.2.2.1
        have s0 := HR4.out.2.1
        have s1 := HR4.out.2.2.1
        have s2 := HR4.out.2.2.2.1
        have t0 := HR4.out.2.2.2.2 0
        have t1 := HR4.out.2.2.2.2 1
        have t2 := HR4.out.2.2.2.2 2
        clear a1 a2 r0 r1 r2 z0 z1 z2
        go_wp2_with fail
        clear hW4 a0 c1 c2 s0 s1 s2 t0 t1 t2
        have HKP : ∀ (x y z : Value), Kept (fun b => (ok b ∧ b < w.heap.size) ∨ w.heap.size + 1 < b) W4 (((W4.setCell ⟨w.heap.size + 1, 0, none⟩ x).setCell ⟨w.heap.size + 1, 1, none⟩ y).setCell ⟨w.heap.size + 1, 2, none⟩ z) := fun x y z =>
          ((Kept.setCell _ _ _ (by rintro (⟨_, h⟩ | h) <;> simp at h <;> omega)).trans (Kept.setCell _ _ _ (by rintro (⟨_, h⟩ | h) <;> simp at h <;> omega))).trans (Kept.setCell _ _ _ (by rintro (⟨_, h⟩ | h) <;> simp at h <;> omega))
        have HP7 := Lib.hid (HP4.out.keep (HKP (.slice (some ⟨W1.heap.size, 0, none⟩) 2 2) (.slice io p.l.length ic) (.int .i64 p.f)) (fun _ _ h => h))
        have HR7 := Lib.hid (At3.put3 HR4.out (.slice (some ⟨W1.heap.size, 0, none⟩) 2 2) (.slice io p.l.length ic) (.int .i64 p.f))
        have HB7 := Lib.hid (((HBA.out.setCell (p := ⟨w.heap.size + 1, 0, none⟩) (Nat.le_succ _) (.slice (some ⟨W1.heap.size, 0, none⟩) 2 2)).setCell (p := ⟨w.heap.size + 1, 1, none⟩) (Nat.le_succ _) (.slice io p.l.length ic)).setCell (p := ⟨w.heap.size + 1, 2, none⟩) (Nat.le_succ _) (.int .i64 p.f))
        obtain ⟨W7, hW7⟩ : ∃ W7, (((W4.setCell ⟨w.heap.size + 1, 0, none⟩ (.slice (some ⟨W1.heap.size, 0, none⟩) 2 2)).setCell ⟨w.heap.size + 1, 1, none⟩ (.slice io p.l.length ic)).setCell ⟨w.heap.size + 1, 2, none⟩ (.int .i64 p.f)) = W7 := ⟨_, rfl⟩
        rw [hW7] at HP7 HR7 HB7 ⊢
        have r0 := HR7.out.2.1
        have r1 := HR7.out.2.2.1
        have r2 := HR7.out.2.2.2.1
        refine bodyPost_ret (v := .agg #[.slice (some ⟨W1.heap.size, 0, none⟩) 2 2, .slice io p.l.length ic, .int .i64 p.f]) (by simp [results, Tryz.results15, go_sem, r0, r1, r2]) rfl ⟨_, rfl, ?_, HB7.out⟩
        have h9 := HP7.out.wide (ok' := fun b => (ok b ∧ b < w.heap.size) ∨ w.heap.size ≤ b) (fun b _ h => by rcases h with h | h; exact Or.inl h; exact Or.inr (by omega))
        rw [HTM2.out]; exact h9
      · have hpe2 : (pe == 0) = false := by simpa using hpe
        have HTM2 := Lib.hid (show tabM (a :: r) = 1 by rw [HTM.out, if_neg hpe])
        clear hpe
        have a0 := HA.out.2.1
        have a1 := HA.out.2.2.1
        have a2 := HA.out.2.2.2.1
        have r0 := HR.out.2.1
        have r1 := HR.out.2.2.1
        have r2 := HR.out.2.2.2.1
        have z0 := HR.out.2.2.2.2 0
        have z1 := HR.out.2.2.2.2 1
        have z2 := HR.out.2.2.2.2 2
        obtain ⟨W4, hW4⟩ : ∃ W4, W1.alloc (.cells #[.int .i64 a, .int .i64 1] 3) = W4 := ⟨_, rfl⟩
        have HB4 := Lib.hid (show Below W1.heap.size W1 W4 by rw [← hW4]; exact below_new _ _)
        have HS4 := Lib.hid (show Slc W4 (fun b => (ok b ∧ b < w.heap.size) ∨ w.heap.size + 1 < b) (.slice (some ⟨W1.heap.size, 0, none⟩) 2 2) 2 (ints [a, 1]) by
          rw [← hW4]
          exact (Slc.owned (World.ownsRow_lit (base := W1.heap.size) (e := 3) (size := 1) W1 #[.int .i64 a, .int .i64 1] 2 (Nat.le_refl _) (by unfold maxLen; omega) rfl)).keep (Kept.refl _ _) (fun b _ h => Or.inr (by have := HSZ1.out; omega)))
        have HI4 := Lib.hid (show Its W4 (fun b => (ok b ∧ b < w.heap.size) ∨ w.heap.size + 1 < b) (.slice io p.l.length ic) p.l from (HI.out.grow HB4.out).wide (fun b _ h => Or.inl h))
        have HR4 := Lib.hid (HR.out.below HB4.out)
        have HA4 := Lib.hid (HA.out.below HB4.out)
        have HBA := Lib.hid (HB.out.trans (HB4.out.mono (by have := HSZ1.out; omega)))
        have HP4 := Lib.hid (IsP.of (s := [a, 1]) (f := p.f) HS4.out HI4.out)
        have c1 := HA4.out.2.2.1
        have c2 := HA4.out.2.2.2.1
        have s0 := HR4.out.2.1
        have s1 := HR4.out.2.2.1
        have s2 := HR4.out.2.2.2.1
        have t0 := HR4.out.2.2.2.2 0
        have t1 := HR4.out.2.2.2.2 1
        have t2 := HR4.out.2.2.2.2 2
        clear a1 a2 r0 r1 r2 z0 z1 z2
        go_wp2_with fail
        clear hW4 a0 c1 c2 s0 s1 s2 t0 t1 t2
        have HKP : ∀ (x y z : Value), Kept (fun b => (ok b ∧ b < w.heap.size) ∨ w.heap.size + 1 < b) W4 (((W4.setCell ⟨w.heap.size + 1, 0, none⟩ x).setCell ⟨w.heap.size + 1, 1, none⟩ y).setCell ⟨w.heap.size + 1, 2, none⟩ z) := fun x y z =>
          ((Kept.setCell _ _ _ (by rintro (⟨_, h⟩ | h) <;> simp at h <;> omega)).trans (Kept.setCell _ _ _ (by rintro (⟨_, h⟩ | h) <;> simp at h <;> omega))).trans (Kept.setCell _ _ _ (by rintro (⟨_, h⟩ | h) <;> simp at h <;> omega))
        have HP7 := Lib.hid (HP4.out.keep (HKP (.slice (some ⟨W1.heap.size, 0, none⟩) 2 2) (.slice io p.l.length ic) (.int .i64 p.f)) (fun _ _ h => h))
        have HR7 := Lib.hid (At3.put3 HR4.out (.slice (some ⟨W1.heap.size, 0, none⟩) 2 2) (.slice io p.l.length ic) (.int .i64 p.f))
        have HB7 := Lib.hid (((HBA.out.setCell (p := ⟨w.heap.size + 1, 0, none⟩) (Nat.le_succ _) (.slice (some ⟨W1.heap.size, 0, none⟩) 2 2)).setCell (p := ⟨w.heap.size + 1, 1, none⟩) (Nat.le_succ _) (.slice io p.l.length ic)).setCell (p := ⟨w.heap.size + 1, 2, none⟩) (Nat.le_succ _) (.int .i64 p.f))
        obtain ⟨W7, hW7⟩ : ∃ W7, (((W4.setCell ⟨w.heap.size + 1, 0, none⟩ (.slice (some ⟨W1.heap.size, 0, none⟩) 2 2)).setCell ⟨w.heap.size + 1, 1, none⟩ (.slice io p.l.length ic)).setCell ⟨w.heap.size + 1, 2, none⟩ (.int .i64 p.f)) = W7 := ⟨_, rfl⟩
        rw [hW7] at HP7 HR7 HB7 ⊢
        have r0 := HR7.out.2.1
        have r1 := HR7.out.2.2.1
        have r2 := HR7.out.2.2.2.1
        refine bodyPost_ret (v := .agg #[.slice (some ⟨W1.heap.size, 0, none⟩) 2 2, .slice io p.l.length ic, .int .i64 p.f]) (by simp [results, Tryz.results15, go_sem, r0, r1, r2]) rfl ⟨_, rfl, ?_, HB7.out⟩
        have h9 := HP7.out.wide (ok' := fun b => (ok b ∧ b < w.heap.size) ∨ w.heap.size ≤ b) (fun b _ h => by rcases h with h | h; exact Or.inl h; exact Or.inr (by omega))
        rw [HTM2.out]; exact h9
end Go.Proofs.YtbfcdpabjailcaaGreatDoor

/- Layer 20, plain: the lengths of shapes. -/
namespace Go.Proofs.YtbfcdpabjailcaaGreatDoor
set_option maxRecDepth 100000
open Go.RowKit Fl
set_option linter.unusedVariables false

theorem nzp_acc (s : List Int) : ∀ a : Int, s.foldl (fun n x => if 0 < x then n * x else n) a = a * nzp s := by
  unfold nzp
  induction s with
  | nil => intro a; simp
  | cons x s ih =>
    intro a
    rw [List.foldl_cons, List.foldl_cons, ih]
    conv => rhs; rw [ih]
    by_cases h : 0 < x
    · rw [if_pos h, if_pos h, Int.one_mul, Int.mul_assoc]
    · rw [if_neg h, if_neg h, Int.one_mul]
theorem nzp_cons20 (x : Int) (s : List Int) : nzp (x :: s) = (if 0 < x then x else 1) * nzp s := by
  conv => lhs; unfold nzp
  rw [List.foldl_cons, nzp_acc, Int.one_mul]
theorem prodR_parts {s : List Int} {n : Nat} (h : prodR s 1048576 = ((n : Int), 0)) : s.length ≤ 8 ∧ anyN s = false ∧ nzp s ≤ 1048576 ∧ (n : Int) = if anyZ s = true then 0 else nzp s := by
  have hl := (prodR_len h).1
  by_cases hn : anyN s = true
  · rw [prodR_neg (by omega) hn] at h; simp at h
  · have hn' : anyN s = false := by simpa using hn
    by_cases hm : 1048576 < nzp s
    · rw [prodR_much (by omega) hn' hm] at h; simp at h
    · rw [prodR_fit (by omega) hn' hm] at h
      by_cases h2 : 1048576 < (if anyZ s = true then 0 else nzp s)
      · rw [if_pos h2] at h; simp at h
      · rw [if_neg h2] at h
        exact ⟨hl, hn', by omega, (congrArg Prod.fst h).symm⟩
theorem prodR_make {s : List Int} (hl : s.length ≤ 8) (hn : anyN s = false) (hm : nzp s ≤ 1048576) : prodR s 1048576 = ((if anyZ s = true then 0 else nzp s), 0) := by
  rw [prodR_fit (by omega) hn (by omega)]
  have := nzp_pos s
  by_cases hz : anyZ s = true
  · rw [if_pos hz]; simp
  · rw [if_neg hz, if_neg (by omega)]
theorem shape_mem {s : List Int} {n : Nat} (h : prodR s 1048576 = ((n : Int), 0)) : ∀ x ∈ s, 0 ≤ x ∧ x ≤ 1048576 := by
  intro x hx
  obtain ⟨h1, h2, h3, _⟩ := prodR_parts h
  obtain ⟨k, hk, rfl⟩ := List.mem_iff_getElem.1 hx
  have e := List.getElem?_eq_getElem hk
  have hn := anyN_mem e h2
  refine ⟨by omega, ?_⟩
  by_cases h0 : 0 < s[k]
  · exact Int.le_trans (nzp_mem e h0) h3
  · omega
theorem num_len20 {x : Int} (h : 0 ≤ x ∧ x ≤ 1048576) : Num (floatOfInt .f64 x) := num_ofInt x (sm_yes (by omega) (by omega))
theorem shF_num {s : List Int} {n : Nat} (h : prodR s 1048576 = ((n : Int), 0)) : ∀ x ∈ shF s, Num x := by
  intro x hx
  obtain ⟨y, hy, rfl⟩ := List.mem_map.1 hx
  exact num_len20 (shape_mem h y hy)
theorem tabN_mem {s : List Int} {n : Nat} (h : prodR s 1048576 = ((n : Int), 0)) : 0 ≤ tabN s ∧ tabN s ≤ 1048576 := by
  cases s with
  | nil => exact ⟨by decide, by decide⟩
  | cons a r => exact shape_mem h a (by simp)
theorem table_prod {s : List Int} {n : Nat} (h : prodR s 1048576 = ((n : Int), 0)) : prodR [tabN s, tabM s] 1048576 = ((n : Int), 0) := by
  cases s with
  | nil =>
    have : (n : Int) = 1 := by
      have := (prodR_parts h).2.2.2
      rw [this]; decide
    rw [this]; decide
  | cons a r =>
    obtain ⟨h1, h2, h3, h4⟩ := prodR_parts h
    have ha := shape_mem h a (by simp)
    have hr : anyN r = false := by
      unfold anyN at h2 ⊢
      rw [List.any_cons, Bool.or_eq_false_iff] at h2
      exact h2.2
    have hp := nzp_pos r
    have hc := nzp_cons20 a r
    have hnr : nzp r ≤ 1048576 := by
      by_cases h0 : 0 < a
      · rw [if_pos h0] at hc
        have : 1 * nzp r ≤ a * nzp r := Int.mul_le_mul_of_nonneg_right (by omega) (by omega)
        omega
      · rw [if_neg h0] at hc; omega
    have hM := prodR_make (s := r) (by simp at h1; omega) hr hnr
    have eM : tabM (a :: r) = if anyZ r = true then 0 else nzp r := by
      show (if (prodR r 1048576).2 = 0 then (prodR r 1048576).1 else 1) = _
      rw [hM, if_pos rfl]
    show prodR [a, tabM (a :: r)] 1048576 = _
    obtain ⟨M, hMe⟩ : ∃ M, tabM (a :: r) = M := ⟨_, rfl⟩
    rw [hMe] at eM ⊢
    have hM0 : 0 ≤ M := by rw [eM]; split <;> omega
    have c1 := nzp_cons20 a [M]
    have c2 := nzp_cons20 M []
    rw [nzp_nil, Int.mul_one] at c2
    have hz1 : anyZ [a, M] = (a == 0 || M == 0) := by simp [anyZ]
    have hn1 : anyN [a, M] = false := by simp [anyN]; omega
    have hz2 : anyZ (a :: r) = (a == 0 || anyZ r) := by simp [anyZ]
    by_cases hz : anyZ r = true
    · rw [if_pos hz] at eM
      subst eM
      rw [if_neg (by decide)] at c2
      rw [c2, Int.mul_one] at c1
      rw [prodR_make (by simp) hn1 (by rw [c1]; split <;> omega), h4, hz1, hz2, hz]
      simp
    · rw [if_neg hz] at eM
      subst eM
      have hz' : anyZ r = false := by simpa using hz
      rw [if_pos (by omega)] at c2
      rw [c2] at c1
      have h5 : nzp [a, nzp r] = nzp (a :: r) := by rw [c1, hc]
      rw [prodR_make (by simp) hn1 (by rw [h5]; exact h3), h4, hz1, hz2, hz', h5]
      have : (nzp r == 0) = false := by simp; omega
      rw [this]
theorem tabM_prod {a : Int} {r : List Int} {n : Nat} (h : prodR (a :: r) 1048576 = ((n : Int), 0)) : prodR r 1048576 = (tabM (a :: r), 0) := by
  obtain ⟨h1, h2, h3, h4⟩ := prodR_parts h
  have hr : anyN r = false := by
    unfold anyN at h2 ⊢
    rw [List.any_cons, Bool.or_eq_false_iff] at h2
    exact h2.2
  have hp := nzp_pos r
  have hc := nzp_cons20 a r
  have hnr : nzp r ≤ 1048576 := by
    by_cases h0 : 0 < a
    · rw [if_pos h0] at hc
      have : 1 * nzp r ≤ a * nzp r := Int.mul_le_mul_of_nonneg_right (by omega) (by omega)
      omega
    · rw [if_neg h0] at hc; omega
  have hM := prodR_make (s := r) (by simp at h1; omega) hr hnr
  show _ = ((if (prodR r 1048576).2 = 0 then (prodR r 1048576).1 else 1), 0)
  rw [hM, if_pos rfl]
theorem tabM_drop {s : List Int} {n : Nat} (h : prodR s 1048576 = ((n : Int), 0)) : prodR (s.drop 1) 1048576 = (tabM s, 0) := by
  cases s with
  | nil => decide
  | cons a r => exact tabM_prod h
end Go.Proofs.YtbfcdpabjailcaaGreatDoor

/- Layer 20, walked: tally, length, integers, Shape, Tally, Ravel, Table. Written by tools/gen_rsc.py. -/
namespace Go.Proofs.YtbfcdpabjailcaaGreatDoor
set_option maxRecDepth 100000
open Go.RowKit Fl
set_option linter.unusedVariables false

/-- An array that the laws of layer 20 hand in. -/
def rG (A : List Int × VV) : Prop := gA 40 A ∧ A.1.length ≤ 8
def ArrIs (A : List Int × VV) (w : World) (e : Ending) (w' : World) : Prop := ∃ so sc u, e = .returned (.agg #[.slice so A.1.length sc, u]) ∧ IsArr w' (fun _ => True) (.slice so A.1.length sc) u A ∧ Below w.heap.size w w'
theorem tight_sq {V : VV} (h : V.kind = V.least) : V.sq = V := by unfold VV.sq; rw [← h]; exact VV.into_own V

theorem ze_num20 {x : Nat} (h : Num x) : ze x = x := by have := map_ze (l := [x]) (fun y hy => by rw [List.mem_singleton.1 hy]; exact h); simpa using this
theorem rstal_calls {ok : Nat → Prop} (v : Value) (s : List Int) (w : World) (hs : Slc w ok v s.length (ints s)) :
    Calls Tryz.prog 30 #[v] w fun e w' => e = .returned (.int .i64 (tabN s)) ∧ w = w' := by
  obtain ⟨so, sc, rfl, h1, h2, h3, h4⟩ := hs.opened
  cases s with
  | nil =>
    clear h4
    go_enter Tryz.func30, Tryz.ntmps30
    go_wp2
    go_ret
    exact ⟨rfl, rfl⟩
  | cons a r =>
    obtain ⟨b, off, rfl, hok, hc⟩ := h4 0 (by simp [ints])
    have hc0 : w.cell? ⟨b, off, none⟩ = some (.int .i64 a) := by simpa [ints] using hc
    obtain ⟨n, hn⟩ : ∃ n, (a :: r).length = n := ⟨_, rfl⟩
    have hn0 : ((n : Int) == 0) = false := by rw [← hn]; simp; omega
    have hn1 : 0 < n := by rw [← hn]; simp
    rw [hn]
    clear h4 hc hs h1 h2 hn
    go_enter Tryz.func30, Tryz.ntmps30
    go_wp2
    go_ret
    exact ⟨rfl, rfl⟩
theorem slI_tail {w : World} {ok : Nat → Prop} {so : Option Addr} {n sc : Nat} {s : List Int} (hs : Slc w ok (.slice so n sc) n (ints s)) (m : Nat) (hm : m ≤ n) :
    ∃ v, (∀ w', (Instr.slice 22 (.slice so n sc) (some (.int .i64 (m : Int))) none none).run Tryz.prog w' = .ok v w') ∧ Slc w ok v (n - m) (ints (s.drop m)) := by
  have hsz : ∀ w, (sizeOf (Tryz.prog.elem 22)).run Tryz.prog w = .ok 1 w := fun w => by kernel_rfl
  obtain ⟨⟨h1, ao1, cap1, e1, h3⟩, ao2, cap2, e2, h4, h5⟩ := hs
  cases e1; cases e2
  rw [ints_len] at h1
  refine ⟨sliced so m n sc 1, fun w' => ?_, ?_⟩
  · rw [run_slice_l w' 22 so n sc (by kernel_rfl) .i64 (m : Int) (by omega) (by omega), hsz]
    simp only [Result.andThen, Int.toNat_natCast]
  · refine ⟨⟨by rw [ints_len, List.length_drop, h1], _, _, rfl, fun i hi => ?_⟩, _, _, rfl, by omega, by omega⟩
    rw [ints_len, List.length_drop] at hi
    obtain ⟨b, off, rfl, hb, hc⟩ := h3 (m + i) (by rw [ints_len]; omega)
    rw [if_neg (by omega)]
    refine ⟨b, off + m, by simp [Addr.add], hb, ?_⟩
    rw [show off + m + i = off + (m + i) by omega, hc, ints_get, ints_get, List.getElem_drop]
theorem newE_fit {s : List Int} {V : VV} (h : prodR s 1048576 = ((V.len : Int), 0)) (hk : 0 < V.kind) : newE s V = 0 := by
  unfold newE
  rw [h]
  simp
  omega
theorem VV.kind_pos {V : VV} (h : V.kind = V.least) : 0 < V.kind := by
  cases V <;> first | (simp [VV.kind]; done) | (rw [h]; exact_mod_cast (_root_.Go.Proofs.YtbfcdpabjailcaaGreatDoor.leastW_le _).1)
/-- What length makes of a whole number. -/
def lnF (n : Int) : Int := min (max n (-1)) 1048577
theorem rslen_calls (n : Int) (w : World) : Calls Tryz.prog 36 #[.int .i64 n] w fun e w' => e = .returned (.int .i64 (lnF n)) ∧ w = w' := by
  obtain ⟨M, hM⟩ : ∃ M : Int, (if (-1 : Int) > n then -1 else n) = M := ⟨_, rfl⟩
  have hmax : ∀ (ts : Array TypeId) (t : TypeId) (w : World), (Builtin.max_ ts t #[.int .i64 n, .int .i64 (-1)]).run Tryz.prog w = .ok (.int .i64 M) w := fun ts t w => by rw [run_max_int2, hM]
  have hmin : ∀ (ts : Array TypeId) (t : TypeId) (w : World), (Builtin.min_ ts t #[.int .i64 M, .int .i64 1048577]).run Tryz.prog w = .ok (.int .i64 (lnF n)) w := fun ts t w => by
    rw [run_min_int2]
    congr 2
    unfold lnF
    rw [← hM]
    split <;> split <;> omega
  go_enter Tryz.func36, Tryz.ntmps36
  go_wp2
  go_ret
  exact ⟨rfl, rfl⟩

set_option maxHeartbeats 4000000 in
theorem rsravel_calls {ok : Nat → Prop} (sh u : Value) (A : List Int × VV) (w : World) (h : IsArr w ok sh u A) (hA : rG A) (hT : TabAt w) :
    Calls Tryz.prog 13 #[.agg #[sh, u]] w (ArrIs ([(A.2.len : Int)], A.2) w) := by
  obtain ⟨so, sc, rfl, _⟩ := h.1.opened
  obtain ⟨s, V⟩ := A
  simp only at h hA ⊢
  obtain ⟨hs, hv⟩ := h
  simp only at hs hv
  have hsu := hv.store
  obtain ⟨⟨g1, g2, g3, g4, g5⟩, g6⟩ := hA
  simp only at g1 g2 g3 g4 g5 g6
  have HP := Lib.hid g1
  have HOK := Lib.hid g2
  have HNM := Lib.hid g3
  have HLS := Lib.hid g4
  have H8 := Lib.hid g6
  obtain ⟨n, hn⟩ : ∃ n, s.length = n := ⟨_, rfl⟩
  have HN := Lib.hid hn
  clear g1 g2 g3 g4 g5 g6
  rw [hn] at hs
  rw [hn]
  obtain ⟨W1, hW1⟩ : ∃ W1, W1 = (w.alloc (.cells #[.slice so n sc, u] 31)).alloc (.cells #[.slice none 0 0, .nilIface] 31) := ⟨_, rfl⟩
  have HB := Lib.hid (show Below w.heap.size w W1 by rw [hW1]; exact (below_new _ _).alloc (by simp) _)
  have HA := Lib.hid (show At2 W1 w.heap.size (.slice so n sc) u by rw [hW1]; exact (At2.new w _ _ _).below (below_new _ _))
  have HV := Lib.hid (show IsV W1 (fun b => b < w.heap.size) u V from (hv.lt.wide (fun b _ h => h.2)).grow HB.out)
  have HS := Lib.hid (show Slc W1 (fun b => b < w.heap.size) (.slice so n sc) n (ints s) from (hs.keep (Kept.refl _ _) (fun b h _ => h)).below HB.out)
  have HT := Lib.hid (show TabAt W1 from fun j hj => keep_below HB.out _ _ (hT j hj))
  have HW1 := Lib.hid (Below.refl W1.heap.size W1)
  have HWW := Lib.hid (show W1.heap.size = w.heap.size + 2 by rw [hW1]; simp)
  have HR := Lib.hid (show At2 W1 (w.heap.size + 1) (.slice none 0 0) .nilIface by rw [hW1]; have := At2.new (w.alloc (.cells #[.slice so n sc, u] 31)) (.slice none 0 0) .nilIface 31; simpa using this)
  have hfold := hW1.symm
  clear hs hv hT hW1 hn
  have cHA0 := HA.out.2.1
  have cHA1 := HA.out.2.2.1
  have cHR0 := HR.out.2.1
  have cHR1 := HR.out.2.2.1
  go_enter Tryz.func13, Tryz.ntmps13
  go_wp2_with fail
  clear hfold
  have HO := Lib.hid HW1.out.size
  refine (valList_calls _ V _ HV.out HOK.out HNM.out HT.out).mono ?_
  rintro e W11 ⟨ro, rc, u', rfl, hr, hB⟩
  clear cHA0 cHA1 cHR0 cHR1
  replace HA := Lib.hid (HA.out.below hB)
  replace HR := Lib.hid (HR.out.below hB)
  replace HB := Lib.hid (HB.out.trans (hB.mono HB.out.size))
  replace HW1 := Lib.hid (HW1.out.trans (hB.mono HW1.out.size))
  replace HV := Lib.hid (HV.out.grow hB)
  replace HS := Lib.hid (HS.out.below hB)
  replace HT := Lib.hid (fun j hj => keep_below hB _ _ (HT.out j hj))
  rw [tight_sq HLS.out] at hr
  have HX := Lib.hid (show IsArr W11 (fun b => b ≠ w.heap.size + 1) (.slice ro 1 rc) u' ([(V.len : Int)], V) from hr.wide (fun b _ h => by have := HO.out; have := HWW.out; rcases h with ⟨h, _⟩ | h <;> omega))
  have hsx := hr.2.store
  clear hr
  clear hB
  have cHA0 := HA.out.2.1
  have cHA1 := HA.out.2.2.1
  have cHR0 := HR.out.2.1
  have cHR1 := HR.out.2.2.1
  have zHR0 := HR.out.2.2.2 0
  have zHR1 := HR.out.2.2.2 1
  go_wp2_with fail
  refine bodyPost_ret (v := .agg #[.slice ro 1 rc, u']) (by simp [results, Tryz.results13, go_sem, World.cell?_setCell_same, cHR0, cHR1]) rfl ⟨_, _, u', rfl, ?_, (HB.out.setCell (Nat.le_succ _) _).setCell (Nat.le_succ _) _⟩
  exact IsArr.keep (ok := fun b => b ≠ w.heap.size + 1) ((Kept.setCell _ _ _ (fun h => h rfl)).trans (Kept.setCell _ _ _ (fun h => h rfl))) (fun _ _ _ => trivial) HX.out

set_option maxHeartbeats 4000000 in
theorem rstally_calls {ok : Nat → Prop} (sh u : Value) (A : List Int × VV) (w : World) (h : IsArr w ok sh u A) (hA : rG A) (hT : TabAt w) :
    Calls Tryz.prog 11 #[.agg #[sh, u]] w (ArrIs ([], sqL [floatOfInt .f64 (tabN A.1)]) w) := by
  obtain ⟨so, sc, rfl, _⟩ := h.1.opened
  obtain ⟨s, V⟩ := A
  simp only at h hA ⊢
  obtain ⟨hs, hv⟩ := h
  simp only at hs hv
  have hsu := hv.store
  obtain ⟨⟨g1, g2, g3, g4, g5⟩, g6⟩ := hA
  simp only at g1 g2 g3 g4 g5 g6
  have HP := Lib.hid g1
  have HOK := Lib.hid g2
  have HNM := Lib.hid g3
  have HLS := Lib.hid g4
  have H8 := Lib.hid g6
  obtain ⟨n, hn⟩ : ∃ n, s.length = n := ⟨_, rfl⟩
  have HN := Lib.hid hn
  clear g1 g2 g3 g4 g5 g6
  rw [hn] at hs
  rw [hn]
  obtain ⟨W1, hW1⟩ : ∃ W1, W1 = (w.alloc (.cells #[.slice so n sc, u] 31)).alloc (.cells #[.slice none 0 0, .nilIface] 31) := ⟨_, rfl⟩
  have HB := Lib.hid (show Below w.heap.size w W1 by rw [hW1]; exact (below_new _ _).alloc (by simp) _)
  have HA := Lib.hid (show At2 W1 w.heap.size (.slice so n sc) u by rw [hW1]; exact (At2.new w _ _ _).below (below_new _ _))
  have HV := Lib.hid (show IsV W1 (fun b => b < w.heap.size) u V from (hv.lt.wide (fun b _ h => h.2)).grow HB.out)
  have HS := Lib.hid (show Slc W1 (fun b => b < w.heap.size) (.slice so n sc) n (ints s) from (hs.keep (Kept.refl _ _) (fun b h _ => h)).below HB.out)
  have HT := Lib.hid (show TabAt W1 from fun j hj => keep_below HB.out _ _ (hT j hj))
  have HW1 := Lib.hid (Below.refl W1.heap.size W1)
  have HWW := Lib.hid (show W1.heap.size = w.heap.size + 2 by rw [hW1]; simp)
  have HR := Lib.hid (show At2 W1 (w.heap.size + 1) (.slice none 0 0) .nilIface by rw [hW1]; have := At2.new (w.alloc (.cells #[.slice so n sc, u] 31)) (.slice none 0 0) .nilIface 31; simpa using this)
  have hfold := hW1.symm
  clear hs hv hT hW1 hn
  have hz : Num (floatOfInt .f64 (tabN s)) := by
    have : 0 ≤ tabN s ∧ tabN s ≤ 1048576 := tabN_mem HP.out
    exact num_len20 this
  obtain ⟨z, hz0⟩ : ∃ z, floatOfInt .f64 (tabN s) = z := ⟨_, rfl⟩
  rw [hz0] at hz ⊢
  have HZ0 := Lib.hid hz0
  have HZ := Lib.hid hz
  clear hz hz0
  have cHA0 := HA.out.2.1
  have cHA1 := HA.out.2.2.1
  have cHR0 := HR.out.2.1
  have cHR1 := HR.out.2.2.1
  go_enter Tryz.func11, Tryz.ntmps11
  go_wp2_with fail
  clear hfold
  refine (rstal_calls _ s _ (by rw [HN.out]; exact HS.out)).mono ?_
  rintro e w9 ⟨rfl, rfl⟩
  obtain ⟨tn, htn⟩ : ∃ tn, tabN s = tn := ⟨_, rfl⟩
  have HTN := Lib.hid htn
  replace HZ0 := Lib.hid (by have := HZ0.out; rw [htn] at this; exact this)
  have hcv : ∀ w, (convert 3 38 (.int .i64 tn)).run Tryz.prog w = .ok (.float .f64 z) w := fun w => by rw [← HZ0.out]; rfl
  rw [htn]
  clear htn
  go_wp2_with fail
  have HO := Lib.hid HW1.out.size
  refine (valNum_yes z _ HZ.out.1 HT.out).mono ?_
  rintro e W11 ⟨u', rfl, hr, hB⟩
  clear cHA0 cHA1 cHR0 cHR1
  replace HA := Lib.hid (HA.out.below hB)
  replace HR := Lib.hid (HR.out.below hB)
  replace HB := Lib.hid (HB.out.trans (hB.mono HB.out.size))
  replace HW1 := Lib.hid (HW1.out.trans (hB.mono HW1.out.size))
  replace HV := Lib.hid (HV.out.grow hB)
  replace HS := Lib.hid (HS.out.below hB)
  replace HT := Lib.hid (fun j hj => keep_below hB _ _ (HT.out j hj))
  have ez : (VV.floats [ze z]).sq = sqL [z] := by rw [ze_num20 HZ.out]; rfl
  rw [ez] at hr
  clear ez
  have HX := Lib.hid (show IsArr W11 (fun b => b ≠ w.heap.size + 1) (.slice none 0 0) u' ([], sqL [z]) from hr.wide (fun b _ h => by have := HO.out; have := HWW.out; omega))
  have hsx := hr.2.store
  clear hr
  clear hB
  obtain ⟨W12, hWn⟩ : ∃ xw9, W11.alloc (.cells #[.slice none 0 0, u'] 31) = xw9 := ⟨_, rfl⟩
  have hB : Below W11.heap.size W11 W12 := by rw [← hWn]; exact below_new _ _
  have hNB : At2 W12 W11.heap.size (.slice none 0 0) (u') := by rw [← hWn]; exact At2.new _ _ _ _
  replace HA := Lib.hid (HA.out.below hB)
  replace HR := Lib.hid (HR.out.below hB)
  replace HB := Lib.hid (HB.out.trans (hB.mono HB.out.size))
  replace HW1 := Lib.hid (HW1.out.trans (hB.mono HW1.out.size))
  replace HV := Lib.hid (HV.out.grow hB)
  replace HS := Lib.hid (HS.out.below hB)
  replace HT := Lib.hid (fun j hj => keep_below hB _ _ (HT.out j hj))
  replace HX := Lib.hid (HX.out.grow hB)
  have HM := Lib.hid hNB
  clear hNB hB
  have cHA0 := HA.out.2.1
  have cHA1 := HA.out.2.2.1
  have cHR0 := HR.out.2.1
  have cHR1 := HR.out.2.2.1
  have zHR0 := HR.out.2.2.2 0
  have zHR1 := HR.out.2.2.2 1
  have cHM0 := HM.out.2.1
  have cHM1 := HM.out.2.2.1
  go_wp2_with fail
  refine bodyPost_ret (v := .agg #[.slice none 0 0, u']) (by simp [results, Tryz.results11, go_sem, World.cell?_setCell_same, cHR0, cHR1]) rfl ⟨_, _, u', rfl, ?_, (HB.out.setCell (Nat.le_succ _) _).setCell (Nat.le_succ _) _⟩
  exact IsArr.keep (ok := fun b => b ≠ w.heap.size + 1) ((Kept.setCell _ _ _ (fun h => h rfl)).trans (Kept.setCell _ _ _ (fun h => h rfl))) (fun _ _ _ => trivial) HX.out

set_option maxHeartbeats 4000000 in
theorem rsshape_calls {ok : Nat → Prop} (sh u : Value) (A : List Int × VV) (w : World) (h : IsArr w ok sh u A) (hA : rG A) (hT : TabAt w) :
    Calls Tryz.prog 9 #[.agg #[sh, u]] w (ArrIs ([(A.1.length : Int)], sqL (shF A.1)) w) := by
  obtain ⟨so, sc, rfl, _⟩ := h.1.opened
  obtain ⟨s, V⟩ := A
  simp only at h hA ⊢
  obtain ⟨hs, hv⟩ := h
  simp only at hs hv
  have hsu := hv.store
  obtain ⟨⟨g1, g2, g3, g4, g5⟩, g6⟩ := hA
  simp only at g1 g2 g3 g4 g5 g6
  have HP := Lib.hid g1
  have HOK := Lib.hid g2
  have HNM := Lib.hid g3
  have HLS := Lib.hid g4
  have H8 := Lib.hid g6
  obtain ⟨n, hn⟩ : ∃ n, s.length = n := ⟨_, rfl⟩
  have HN := Lib.hid hn
  clear g1 g2 g3 g4 g5 g6
  rw [hn] at hs
  rw [hn]
  obtain ⟨W1, hW1⟩ : ∃ W1, W1 = (w.alloc (.cells #[.slice so n sc, u] 31)).alloc (.cells #[.slice none 0 0, .nilIface] 31) := ⟨_, rfl⟩
  have HB := Lib.hid (show Below w.heap.size w W1 by rw [hW1]; exact (below_new _ _).alloc (by simp) _)
  have HA := Lib.hid (show At2 W1 w.heap.size (.slice so n sc) u by rw [hW1]; exact (At2.new w _ _ _).below (below_new _ _))
  have HV := Lib.hid (show IsV W1 (fun b => b < w.heap.size) u V from (hv.lt.wide (fun b _ h => h.2)).grow HB.out)
  have HS := Lib.hid (show Slc W1 (fun b => b < w.heap.size) (.slice so n sc) n (ints s) from (hs.keep (Kept.refl _ _) (fun b h _ => h)).below HB.out)
  have HT := Lib.hid (show TabAt W1 from fun j hj => keep_below HB.out _ _ (hT j hj))
  have HW1 := Lib.hid (Below.refl W1.heap.size W1)
  have HWW := Lib.hid (show W1.heap.size = w.heap.size + 2 by rw [hW1]; simp)
  have HR := Lib.hid (show At2 W1 (w.heap.size + 1) (.slice none 0 0) .nilIface by rw [hW1]; have := At2.new (w.alloc (.cells #[.slice so n sc, u] 31)) (.slice none 0 0) .nilIface 31; simpa using this)
  have hFN : ∀ x ∈ shF s, Num x := shF_num HP.out
  have HFN := Lib.hid hFN
  have hFL : (shF s).length = n := by unfold shF; rw [List.length_map, hn]
  have HFL := Lib.hid hFL
  clear hFN hFL
  have hfold := hW1.symm
  clear hs hv hT hW1 hn
  have hn8 : n ≤ 8 := by rw [← HN.out]; exact H8.out
  obtain ⟨xs, hxs⟩ : ∃ xs : List Value, xs = f64s (shF s) := ⟨_, rfl⟩
  have hxl : xs.length = n := by rw [hxs]; unfold f64s; rw [List.length_map, HFL.out]
  have hget : ∀ j (hj : j < xs.length) (x : Int), s[j]? = some x → xs[j]'hj = .float .f64 (floatOfInt .f64 x) := by
    intro j hj x hx
    have : xs[j]? = some (.float .f64 (floatOfInt .f64 x)) := by rw [hxs]; unfold f64s shF; rw [List.getElem?_map, List.getElem?_map, hx]; rfl
    rw [List.getElem?_eq_getElem hj] at this
    exact Option.some.inj this
  have HX := Lib.hid hget
  have HXS := Lib.hid hxs
  have HXL := Lib.hid hxl
  have hmk := run_mkF1 n (by omega) W1
  clear hxs hget hxl
  obtain ⟨W0, hW0⟩ : ∃ W0, W0 = W1.alloc (.cells (zerosV (.float .f64 0) n) 38) := ⟨_, rfl⟩
  have HO0 : Hid (W0.ownsRow W1.heap.size 38 1 (.slice (some ⟨W1.heap.size, 0, none⟩) n n) n (List.replicate n (.float .f64 0))) := Lib.hid (by rw [hW0]; exact own_make1 _ _ _ (by omega) _ _ (Nat.le_refl _))
  have HW := Lib.hid (show Below W1.heap.size W1 W0 by rw [hW0]; exact below_new _ _)
  have a0' := (HA.out.below HW.out).2.1
  have hfold0 := hW0.symm
  clear hW0
  have cHA0 := HA.out.2.1
  have cHA1 := HA.out.2.2.1
  have cHR0 := HR.out.2.1
  have cHR1 := HR.out.2.2.1
  go_enter Tryz.func9, Tryz.ntmps9
  go_wp2_with fail
  clear hfold hfold0 a0' hmk
  clear cHA0 cHA1 cHR0 cHR1
  obtain ⟨G, hG⟩ : ∃ G, W1.heap.size = G := ⟨_, rfl⟩
  have HGE := Lib.hid hG
  rw [hG] at HO0 HW ⊢
  clear hG
  go_loopw [15] (fun i wr => ∃ k : Nat, k ≤ n ∧ i = .int .i64 k ∧ wr.ownsRow G 38 1 (.slice (some ⟨G, 0, none⟩) n n) n (fillTo xs (.float .f64 0) k) ∧ W0.grownBy wr (some G)) (fun i _ => n - (intOf i).toNat)
  case atStart => exact ⟨0, by omega, rfl, by rw [fillTo_zero, HXL.out]; exact HO0.out, grown_refl _ _⟩
  case round =>
    obtain ⟨k, hk, rfl, hown, hgr⟩ := hrel
    have HO := Lib.hid hown
    have HG := Lib.hid hgr
    have hBk : Below G W1 wr := HW.out.grown hgr (by rw [← HGE.out]; exact HW.out.size) (fun j hj => by cases hj; omega)
    rw [← HGE.out] at hBk
    have HBk := Lib.hid hBk
    clear hBk
    by_cases hlt : k < n
    · have hcw := owns_cell HO.out k (by rw [fillTo_len _ _ _ (by rw [HXL.out]; exact hk), HXL.out]; exact hlt)
      have hfr := World.ownsRow.frozenAt HO.out k
      obtain ⟨old, hold⟩ : ∃ old, (fillTo xs (.float .f64 0) k)[k]'(by rw [fillTo_len _ _ _ (by rw [HXL.out]; exact hk), HXL.out]; exact hlt) = old := ⟨_, rfl⟩
      rw [hold] at hcw
      clear hown hgr hold
      have hst := run_store_float
      obtain ⟨b, off, cap1, x, e, hx, c0⟩ := Slc.at_map (Value.int .i64) (l := s) (by rw [HN.out]; exact HS.out.below HBk.out) k (by rw [HN.out]; exact hlt)
      rw [HN.out] at e
      cases e
      obtain ⟨z, hz⟩ : ∃ z, floatOfInt .f64 x = z := ⟨_, rfl⟩
      have HXK := Lib.hid (HX.out k (by rw [HXL.out]; exact hlt) x hx)
      rw [hz] at HXK
      have hcv : ∀ w, (convert 3 38 (.int .i64 x)).run Tryz.prog w = .ok (.float .f64 z) w := fun w => by rw [← hz]; rfl
      clear hx hz
      go_wp2
      go_roundw
      case rel =>
        refine ⟨k + 1, by omega, by go_num, ?_, grown_trans HG.out (grown_setCell _ ⟨G, k, none⟩ _)⟩
        have := (World.ownsRow.stored HO.out k (.float .f64 z)).1
        rw [← HXK.out, fillTo_set] at this
        rw [← HXK.out]
        exact this
      case measure => simp [intOf]; omega
    · have hkl : k = n := by omega
      have HK := Lib.hid hkl
      clear hown hgr
      have HZ := Lib.hid (show Slc wr (fun _ => True) (.slice (some ⟨G, 0, none⟩) n n) (shF s).length (f64s (shF s)) by
        have h1 := (Slc.owned HO.out).any
        rw [HK.out, ← HXL.out, fillTo_all, HXL.out, HXS.out] at h1
        rw [HFL.out]
        exact h1)
      have hB := HBk.out
      clear hkl
      replace HA := Lib.hid (HA.out.below hB)
      replace HR := Lib.hid (HR.out.below hB)
      replace HB := Lib.hid (HB.out.trans (hB.mono HB.out.size))
      replace HW1 := Lib.hid (HW1.out.trans (hB.mono HW1.out.size))
      replace HV := Lib.hid (HV.out.grow hB)
      replace HS := Lib.hid (HS.out.below hB)
      replace HT := Lib.hid (fun j hj => keep_below hB _ _ (HT.out j hj))
      clear hB
      have cHA0 := HA.out.2.1
      have cHA1 := HA.out.2.2.1
      have cHR0 := HR.out.2.1
      have cHR1 := HR.out.2.2.1
      have zHR0 := HR.out.2.2.2 0
      have zHR1 := HR.out.2.2.2 1
      go_wp2_with fail
      have HO2 := Lib.hid HW1.out.size
      refine (numbers_yes _ (shF s) _ HZ.out (by rw [HFL.out]; omega) (fun x hx => (HFN.out x hx).1) HT.out).mono ?_
      rintro e W11 ⟨u2, rfl, hr, hB⟩
      clear cHA0 cHA1 cHR0 cHR1 zHR0 zHR1
      replace HA := Lib.hid (HA.out.below hB)
      replace HR := Lib.hid (HR.out.below hB)
      replace HB := Lib.hid (HB.out.trans (hB.mono HB.out.size))
      replace HW1 := Lib.hid (HW1.out.trans (hB.mono HW1.out.size))
      replace HV := Lib.hid (HV.out.grow hB)
      replace HS := Lib.hid (HS.out.below hB)
      replace HT := Lib.hid (fun j hj => keep_below hB _ _ (HT.out j hj))
      replace HZ := Lib.hid (HZ.out.below hB)
      rw [map_ze HFN.out] at hr
      have HV2 := Lib.hid (show IsV W11 (fun b => w.heap.size + 2 ≤ b) u2 (sqL (shF s)) from IsV.wide hr (fun b _ (h : wr.heap.size ≤ b) => by have := HO2.out; have := HWW.out; omega))
      have hsx2 := hr.store
      clear hr
      clear hB
      obtain ⟨W12, hWn⟩ : ∃ xw9, W11.alloc (.cells #[u2] 29) = xw9 := ⟨_, rfl⟩
      have hB : Below W11.heap.size W11 W12 := by rw [← hWn]; exact below_new _ _
      have hNB : At1 W12 W11.heap.size (u2) := by rw [← hWn]; exact At1.new _ _ _
      replace HA := Lib.hid (HA.out.below hB)
      replace HR := Lib.hid (HR.out.below hB)
      replace HB := Lib.hid (HB.out.trans (hB.mono HB.out.size))
      replace HW1 := Lib.hid (HW1.out.trans (hB.mono HW1.out.size))
      replace HV := Lib.hid (HV.out.grow hB)
      replace HS := Lib.hid (HS.out.below hB)
      replace HT := Lib.hid (fun j hj => keep_below hB _ _ (HT.out j hj))
      replace HZ := Lib.hid (HZ.out.below hB)
      replace HV2 := Lib.hid (HV2.out.grow hB)
      have HM := Lib.hid hNB
      clear hNB hB
      have cHA0 := HA.out.2.1
      have cHA1 := HA.out.2.2.1
      have cHR0 := HR.out.2.1
      have cHR1 := HR.out.2.2.1
      have cHM0 := HM.out.2.1
      go_wp2_with fail
      clear hWn
      have HO3 := Lib.hid HW1.out.size
      refine (valList_calls _ (sqL (shF s)) _ HV2.out (sqL_spec (by rw [HFL.out]; omega) HFN.out).2.1 (sqL_spec (by rw [HFL.out]; omega) HFN.out).2.2.1 HT.out).mono ?_
      rintro e W13 ⟨ro, rc, u', rfl, hr, hB⟩
      clear cHA0 cHA1 cHR0 cHR1 cHM0
      replace HA := Lib.hid (HA.out.below hB)
      replace HR := Lib.hid (HR.out.below hB)
      replace HB := Lib.hid (HB.out.trans (hB.mono HB.out.size))
      replace HW1 := Lib.hid (HW1.out.trans (hB.mono HW1.out.size))
      replace HV := Lib.hid (HV.out.grow hB)
      replace HS := Lib.hid (HS.out.below hB)
      replace HT := Lib.hid (fun j hj => keep_below hB _ _ (HT.out j hj))
      replace HZ := Lib.hid (HZ.out.below hB)
      replace HV2 := Lib.hid (HV2.out.grow hB)
      replace HM := Lib.hid (HM.out.below hB)
      rw [tight_sq (sqL_spec (by rw [HFL.out]; omega) HFN.out).2.2.2.2.2.1, (sqL_spec (by rw [HFL.out]; omega) HFN.out).2.2.2.2.2.2, HFL.out] at hr
      have HXR := Lib.hid (show IsArr W13 (fun b => b ≠ w.heap.size + 1) (.slice ro 1 rc) u' ([(n : Int)], sqL (shF s)) from hr.wide (fun b _ h => by have := HO3.out; have := HWW.out; rcases h with ⟨h, _⟩ | h <;> omega))
      have hsx := hr.2.store
      clear hr
      clear hB
      have cHA0 := HA.out.2.1
      have cHA1 := HA.out.2.2.1
      have cHR0 := HR.out.2.1
      have cHR1 := HR.out.2.2.1
      have zHR0 := HR.out.2.2.2 0
      have zHR1 := HR.out.2.2.2 1
      have cHM0 := HM.out.2.1
      go_wp2_with fail
      refine bodyPost_ret (v := .agg #[.slice ro 1 rc, u']) (by simp [results, Tryz.results9, go_sem, World.cell?_setCell_same, cHR0, cHR1]) rfl ⟨_, _, u', rfl, ?_, (HB.out.setCell (Nat.le_succ _) _).setCell (Nat.le_succ _) _⟩
      exact IsArr.keep (ok := fun b => b ≠ w.heap.size + 1) ((Kept.setCell _ _ _ (fun h => h rfl)).trans (Kept.setCell _ _ _ (fun h => h rfl))) (fun _ _ _ => trivial) HXR.out

set_option maxHeartbeats 8000000 in
theorem rstable_calls {ok : Nat → Prop} (sh u : Value) (A : List Int × VV) (w : World) (h : IsArr w ok sh u A) (hA : rG A) (hT : TabAt w) :
    Calls Tryz.prog 14 #[.agg #[sh, u]] w (ArrIs ([tabN A.1, tabM A.1], A.2) w) := by
  obtain ⟨so, sc, rfl, _⟩ := h.1.opened
  obtain ⟨s, V⟩ := A
  simp only at h hA ⊢
  obtain ⟨hs, hv⟩ := h
  simp only at hs hv
  have hsu := hv.store
  obtain ⟨⟨g1, g2, g3, g4, g5⟩, g6⟩ := hA
  simp only at g1 g2 g3 g4 g5 g6
  have HP := Lib.hid g1
  have HOK := Lib.hid g2
  have HNM := Lib.hid g3
  have HLS := Lib.hid g4
  have H8 := Lib.hid g6
  obtain ⟨n, hn⟩ : ∃ n, s.length = n := ⟨_, rfl⟩
  have HN := Lib.hid hn
  clear g1 g2 g3 g4 g5 g6
  rw [hn] at hs
  rw [hn]
  obtain ⟨W1, hW1⟩ : ∃ W1, W1 = (w.alloc (.cells #[.slice so n sc, u] 31)).alloc (.cells #[.slice none 0 0, .nilIface] 31) := ⟨_, rfl⟩
  have HB := Lib.hid (show Below w.heap.size w W1 by rw [hW1]; exact (below_new _ _).alloc (by simp) _)
  have HA := Lib.hid (show At2 W1 w.heap.size (.slice so n sc) u by rw [hW1]; exact (At2.new w _ _ _).below (below_new _ _))
  have HV := Lib.hid (show IsV W1 (fun b => b < w.heap.size) u V from (hv.lt.wide (fun b _ h => h.2)).grow HB.out)
  have HS := Lib.hid (show Slc W1 (fun b => b < w.heap.size) (.slice so n sc) n (ints s) from (hs.keep (Kept.refl _ _) (fun b h _ => h)).below HB.out)
  have HT := Lib.hid (show TabAt W1 from fun j hj => keep_below HB.out _ _ (hT j hj))
  have HW1 := Lib.hid (Below.refl W1.heap.size W1)
  have HWW := Lib.hid (show W1.heap.size = w.heap.size + 2 by rw [hW1]; simp)
  have HR := Lib.hid (show At2 W1 (w.heap.size + 1) (.slice none 0 0) .nilIface by rw [hW1]; have := At2.new (w.alloc (.cells #[.slice so n sc, u] 31)) (.slice none 0 0) .nilIface 31; simpa using this)
  have hfold := hW1.symm
  clear hs hv hT hW1 hn
  obtain ⟨M, hM⟩ : ∃ M, tabM s = M := ⟨_, rfl⟩
  have HM := Lib.hid hM
  have HPT := Lib.hid (table_prod HP.out)
  rw [hM] at HPT ⊢
  obtain ⟨a, ha⟩ : ∃ a, tabN s = a := ⟨_, rfl⟩
  have HTN := Lib.hid ha
  rw [ha] at HPT ⊢
  clear hM ha
  have hm1 : min 1 n ≤ n := Nat.min_le_right _ _
  obtain ⟨x14, hsl, hx14⟩ := slI_tail HS.out (min 1 n) hm1
  have hdr : s.drop (min 1 n) = s.drop 1 := by
    rcases Nat.eq_zero_or_pos n with h | h
    · have : s = [] := List.eq_nil_of_length_eq_zero (HN.out.trans h)
      rw [this]; simp
    · rw [show min 1 n = 1 by omega]
  have hdl : n - min 1 n = (s.drop 1).length := by rw [List.length_drop, HN.out]; omega
  rw [hdr, hdl] at hx14
  have HS3 := Lib.hid hx14
  have HPR := Lib.hid (show prodR (s.drop 1) 1048576 = (M, 0) by rw [← HM.out]; exact tabM_drop HP.out)
  have HRL := Lib.hid (show (s.drop 1).length ≤ 9223372036854775807 by have := H8.out; rw [List.length_drop]; omega)
  obtain ⟨R, hR⟩ : ∃ R, s.drop 1 = R := ⟨_, rfl⟩
  rw [hR] at HS3 HPR HRL
  obtain ⟨m1, hme⟩ : ∃ m1 : Nat, min 1 n = m1 := ⟨_, rfl⟩
  have hmin : ∀ (ts : Array TypeId) (t : TypeId) (w : World), (Builtin.min_ ts t #[.int .i64 1, .int .i64 (n : Int)]).run Tryz.prog w = .ok (.int .i64 (m1 : Int)) w := fun ts t w => by
    rw [run_min_int2]
    congr 2
    rw [← hme]; split <;> omega
  rw [hme] at hsl
  clear hm1 hx14 hdr hdl hR hme
  have cHA0 := HA.out.2.1
  have cHA1 := HA.out.2.2.1
  have cHR0 := HR.out.2.1
  have cHR1 := HR.out.2.2.1
  go_enter Tryz.func14, Tryz.ntmps14
  go_wp2_with fail
  refine (sproduct_calls _ R 1048576 _ HS3.out HRL.out).mono ?_
  rintro e W11 ⟨rfl, hB⟩
  clear cHA0 cHA1 cHR0 cHR1
  replace HA := Lib.hid (HA.out.below hB)
  replace HR := Lib.hid (HR.out.below hB)
  replace HB := Lib.hid (HB.out.trans (hB.mono HB.out.size))
  replace HW1 := Lib.hid (HW1.out.trans (hB.mono HW1.out.size))
  replace HV := Lib.hid (HV.out.grow hB)
  replace HS := Lib.hid (HS.out.below hB)
  replace HT := Lib.hid (fun j hj => keep_below hB _ _ (HT.out j hj))
  replace HS3 := Lib.hid (HS3.out.below hB)
  rw [HPR.out]
  clear hB
  clear hfold hmin hsl
  have cHA0 := HA.out.2.1
  have cHA1 := HA.out.2.2.1
  have cHR0 := HR.out.2.1
  have cHR1 := HR.out.2.2.1
  have zHR0 := HR.out.2.2.2 0
  have zHR1 := HR.out.2.2.2 1
  go_wp2_with fail
  clear cHA0 cHA1 cHR0 cHR1 zHR0 zHR1
  have HZW := Lib.hid HW1.out.size
  have HZ := Lib.hid (show w.heap.size + 2 ≤ W11.heap.size by have := HWW.out; have := HZW.out; omega)
  obtain ⟨W12, hWD⟩ : ∃ xw9, W11.drew = xw9 := ⟨_, rfl⟩
  have hB : Below W11.heap.size W11 W12 := by rw [← hWD]; exact Below.drewN' (Below.refl _ _) 1
  replace HZ := Lib.hid (And.intro HZ.out hB.size)
  replace HA := Lib.hid (HA.out.below hB)
  replace HR := Lib.hid (HR.out.below hB)
  replace HB := Lib.hid (HB.out.trans (hB.mono HB.out.size))
  replace HW1 := Lib.hid (HW1.out.trans (hB.mono HW1.out.size))
  replace HV := Lib.hid (HV.out.grow hB)
  replace HS := Lib.hid (HS.out.below hB)
  replace HT := Lib.hid (fun j hj => keep_below hB _ _ (HT.out j hj))
  clear hB
  refine wp_region_held_drew (S := fun w' => w'.cell? ⟨w.heap.size, 0, none⟩ = some (.slice so n sc) ∧ w'.cell? ⟨w.heap.size, 1, none⟩ = some u) (by kernel_rfl) (by rw [hWD]; exact ⟨HA.out.2.1, HA.out.2.2.1⟩) (fun hHeld => ?_)
  rw [hWD] at hHeld ⊢
  clear hWD
  refine wpAnyH_take (i := 0) (v := ?_) rfl (by kernel_rfl) (by kernel_rfl) (by kernel_rfl) (fun _ _ _ h => h) (Or.inl ⟨by rfl, ?_⟩) (by assumption) ?_
  rotate_left
  · (intro w hSw; (try dsimp only at hSw); go_simp; try with_reducible rfl)
  simp only [Act.put, List.getElem_toArray, List.getElem_cons_zero, List.setIfInBounds_toArray, List.set_cons_zero, List.set_cons_succ]
  refine wpAnyH_take (i := 1) (v := ?_) rfl (by kernel_rfl) (by kernel_rfl) (by kernel_rfl) (fun _ _ _ h => h) (Or.inl ⟨by rfl, ?_⟩) (by assumption) ?_
  rotate_left
  · (intro w hSw; (try dsimp only at hSw); go_simp; try with_reducible rfl)
  simp only [Act.put, List.getElem_toArray, List.getElem_cons_succ, List.getElem_cons_zero, List.setIfInBounds_toArray, List.set_cons_zero, List.set_cons_succ]
  refine wpAnyH_take (i := 3) (v := ?_) rfl (by kernel_rfl) (by kernel_rfl) (by kernel_rfl) (fun _ _ _ h => h) (Or.inl ⟨by rfl, ?_⟩) (by assumption) ?_
  rotate_left
  · (intro w hSw; (try dsimp only at hSw); go_simp; try with_reducible rfl)
  simp only [Act.put, List.getElem_toArray, List.getElem_cons_succ, List.getElem_cons_zero, List.setIfInBounds_toArray, List.set_cons_zero, List.set_cons_succ]
  refine wpAnyH_take (i := 5) (v := ?_) rfl (by kernel_rfl) (by kernel_rfl) (by kernel_rfl) (fun _ _ _ h => h) (Or.inl ⟨by rfl, ?_⟩) (by assumption) ?_
  rotate_left
  · (intro w hSw; (try dsimp only at hSw); go_simp; try with_reducible rfl)
  simp only [Act.put, List.getElem_toArray, List.getElem_cons_succ, List.getElem_cons_zero, List.setIfInBounds_toArray, List.set_cons_zero, List.set_cons_succ]
  refine wpAnyH_take (i := 6) (v := ?_) rfl (by kernel_rfl) (by kernel_rfl) (by kernel_rfl) (fun _ _ _ h => h) (Or.inl ⟨by rfl, ?_⟩) (by assumption) ?_
  rotate_left
  · (intro w hSw; (try dsimp only at hSw); go_simp; try with_reducible rfl)
  simp only [Act.put, List.getElem_toArray, List.getElem_cons_succ, List.getElem_cons_zero, List.setIfInBounds_toArray, List.set_cons_zero, List.set_cons_succ]
  refine wpAnyH_ready (rs := [2, 11]) (by kernel_rfl) (by simp) ?_
  refine AllReadyH.cons (o := _) rfl (fun K hK => ?_) ?_
  · clear hHeld
    go_simp
    refine (rstal_calls _ s _ (by rw [HN.out]; exact HS.out)).mono ?_
    rintro e w9 ⟨rfl, rfl⟩
    rw [HTN.out]
    refine hK.out _ _ ?_ (fun hHeld => ?_)
    · exact ⟨HA.out.2.1, HA.out.2.2.1⟩
    clear hK K
    refine wpAnyH_ready (rs := [4, 11]) (by kernel_rfl) (by simp) ?_
    refine AllReadyH.cons (o := _) rfl (fun K hK => ?_) ?_
    · clear hHeld
      go_simp
      obtain ⟨W13, hWn⟩ : ∃ xw9, W12.alloc (.cells #[.int .i64 a, .int .i64 M] 3) = xw9 := ⟨_, rfl⟩
      have hB : Below W12.heap.size W12 W13 := by rw [← hWn]; exact below_new _ _
      have hNB : Slc W13 (fun _ => True) (.slice (some ⟨W12.heap.size, 0, none⟩) 2 2) 2 (ints [a, M]) := by
        rw [← hWn]; exact (Slc.owned (World.ownsRow_lit (base := 0) (e := 3) (size := 1) W12 #[.int .i64 a, .int .i64 M] 2 (Nat.zero_le _) (by unfold maxLen; omega) rfl)).keep (Kept.refl _ _) (fun _ _ _ => trivial)
      rw [hWn]
      clear hWn
      obtain ⟨bl, hnm⟩ : ∃ x, W12.heap.size = x := ⟨_, rfl⟩
      rw [hnm] at hNB ⊢
      replace HZ := Lib.hid (And.intro HZ.out hB.size)
      replace HA := Lib.hid (HA.out.below hB)
      replace HR := Lib.hid (HR.out.below hB)
      replace HB := Lib.hid (HB.out.trans (hB.mono HB.out.size))
      replace HW1 := Lib.hid (HW1.out.trans (hB.mono HW1.out.size))
      replace HV := Lib.hid (HV.out.grow hB)
      replace HS := Lib.hid (HS.out.below hB)
      replace HT := Lib.hid (fun j hj => keep_below hB _ _ (HT.out j hj))
      have HSL := Lib.hid hNB
      clear hNB hB hnm
      refine hK.out _ _ ?_ (fun hHeld => ?_)
      · exact ⟨HA.out.2.1, HA.out.2.2.1⟩
      clear hK K
      refine wpAnyH_ready (rs := [7, 11]) (by kernel_rfl) (by simp) ?_
      refine AllReadyH.cons (o := _) rfl (fun K hK => ?_) ?_
      · clear hHeld
        go_simp
        refine (vnew_ok _ u [a, M] V _ HSL.out (by simp) HV.out HOK.out HNM.out HT.out).mono ?_
        rintro e W14 ⟨ns, nu, rfl, hn1, hn2, hB⟩
        replace HZ := Lib.hid (And.intro HZ.out hB.size)
        replace HA := Lib.hid (HA.out.below hB)
        replace HR := Lib.hid (HR.out.below hB)
        replace HB := Lib.hid (HB.out.trans (hB.mono HB.out.size))
        replace HW1 := Lib.hid (HW1.out.trans (hB.mono HW1.out.size))
        replace HV := Lib.hid (HV.out.grow hB)
        replace HS := Lib.hid (HS.out.below hB)
        replace HT := Lib.hid (fun j hj => keep_below hB _ _ (HT.out j hj))
        replace HSL := Lib.hid (HSL.out.below hB)
        have e0 : newE [a, M] V = 0 := newE_fit HPT.out (VV.kind_pos HLS.out)
        rw [tight_sq HLS.out] at hn1
        rw [e0]
        have hra := hn1 e0
        obtain ⟨no, nc, rfl, _⟩ := hra.1.opened
        have HX := Lib.hid (show IsArr W14 (fun b => b < w.heap.size ∨ (W13.heap.size ≤ b ∧ b < W14.heap.size)) (.slice no 2 nc) nu ([a, M], V) from hra.wide (fun b h1 h2 => by rcases h2 with h2 | h2; exact Or.inl h2.1; exact Or.inr ⟨h2, h1⟩))
        have hsn := hra.2.store
        clear hn1 hn2 e0 hra
        clear hB
        refine hK.out _ _ ?_ (fun hHeld => ?_)
        · exact ⟨HA.out.2.1, HA.out.2.2.1⟩
        clear hK K
        refine wpAnyH_take (i := 8) (v := ?_) rfl (by kernel_rfl) (by kernel_rfl) (by kernel_rfl) (fun _ _ _ h => h) (Or.inl ⟨by rfl, ?_⟩) (by assumption) ?_
        rotate_left
        · (intro w hSw; (try dsimp only at hSw); go_simp; try with_reducible rfl)
        simp only [Act.put, List.getElem_toArray, List.getElem_cons_succ, List.getElem_cons_zero, List.setIfInBounds_toArray, List.set_cons_zero, List.set_cons_succ]
        refine wpAnyH_take (i := 9) (v := ?_) rfl (by kernel_rfl) (by kernel_rfl) (by kernel_rfl) (fun _ _ _ h => h) (Or.inl ⟨by rfl, ?_⟩) (by assumption) ?_
        rotate_left
        · (intro w hSw; (try dsimp only at hSw); go_simp; try with_reducible rfl)
        simp only [Act.put, List.getElem_toArray, List.getElem_cons_succ, List.getElem_cons_zero, List.setIfInBounds_toArray, List.set_cons_zero, List.set_cons_succ]
        refine wpAnyH_take (i := 10) (v := ?_) rfl (by kernel_rfl) (by kernel_rfl) (by kernel_rfl) (fun _ _ _ h => h) (Or.inl ⟨by rfl, ?_⟩) (by assumption) ?_
        rotate_left
        · (intro w hSw; (try dsimp only at hSw); go_simp; try with_reducible rfl)
        simp only [Act.put, List.getElem_toArray, List.getElem_cons_succ, List.getElem_cons_zero, List.setIfInBounds_toArray, List.set_cons_zero, List.set_cons_succ]
        refine wpAnyH_ready (rs := [11]) (by kernel_rfl) (by simp) ?_
        refine AllReadyH.cons (o := _) rfl (fun K hK => ?_) ?_
        · clear hHeld
          go_simp
          obtain ⟨W15, hWn⟩ : ∃ xw9, W14.alloc (.cells #[.slice none 0 0, .nilIface] 31) = xw9 := ⟨_, rfl⟩
          have hB : Below W14.heap.size W14 W15 := by rw [← hWn]; exact below_new _ _
          have hNB : At2 W15 W14.heap.size (.slice none 0 0) (.nilIface) := by rw [← hWn]; exact At2.new _ _ _ _
          rw [hWn]
          clear hWn
          obtain ⟨rv, hnm⟩ : ∃ x, W14.heap.size = x := ⟨_, rfl⟩
          rw [hnm] at hNB ⊢
          replace HZ := Lib.hid (And.intro HZ.out (And.intro hnm hNB.1))
          replace HA := Lib.hid (HA.out.below hB)
          replace HR := Lib.hid (HR.out.below hB)
          replace HB := Lib.hid (HB.out.trans (hB.mono HB.out.size))
          replace HW1 := Lib.hid (HW1.out.trans (hB.mono HW1.out.size))
          replace HV := Lib.hid (HV.out.grow hB)
          replace HS := Lib.hid (HS.out.below hB)
          replace HT := Lib.hid (fun j hj => keep_below hB _ _ (HT.out j hj))
          replace HSL := Lib.hid (HSL.out.below hB)
          replace HX := Lib.hid (HX.out.grow hB)
          have HRV := Lib.hid hNB
          clear hNB hB hnm
          refine hK.out _ _ ?_ (fun hHeld => ?_)
          · exact ⟨HA.out.2.1, HA.out.2.2.1⟩
          clear hK K
          refine wpAnyH_ready (rs := [12]) (by kernel_rfl) (by simp) ?_
          refine AllReadyH.cons (o := _) rfl (fun K hK => ?_) ?_
          · clear hHeld
            have s0 := HRV.out.2.1
            have t0 := HRV.out.2.2.2 0
            have s1 := HRV.out.2.2.1
            have t1 := HRV.out.2.2.2 1
            go_simp
            clear s0 t0 s1 t1
            obtain ⟨W16, hWn⟩ : ∃ xw9, (W15.setCell ⟨rv, 0, none⟩ (.slice no 2 nc)).setCell ⟨rv, 1, none⟩ (nu) = xw9 := ⟨_, rfl⟩
            rw [hWn]
            have HRZ := Lib.hid (show w.heap.size + 2 ≤ rv by have := HZ.out; omega)
            replace HX := Lib.hid (show IsArr W16 (fun b => b ≠ w.heap.size + 1) (.slice no 2 nc) nu ([a, M], V) by
              rw [← hWn]
              exact (HX.out.wide (ok' := fun b => b ≠ rv ∧ b ≠ w.heap.size + 1) (fun b _ h => by have := HZ.out; omega)).keep ((Kept.setCell _ _ _ (fun h => h.1 rfl)).trans (Kept.setCell _ _ _ (fun h => h.1 rfl))) (fun _ _ h => h.2))
            replace HA := Lib.hid (show At2 W16 w.heap.size (.slice so n sc) u by rw [← hWn]; exact (HA.out.grown (grown_setCell _ ⟨rv, 0, none⟩ _) (by have := HRZ.out; simp; omega)).grown (grown_setCell _ ⟨rv, 1, none⟩ _) (by have := HRZ.out; simp; omega))
            replace HR := Lib.hid (show At2 W16 (w.heap.size + 1) (.slice none 0 0) .nilIface by rw [← hWn]; exact (HR.out.grown (grown_setCell _ ⟨rv, 0, none⟩ _) (by have := HRZ.out; simp; omega)).grown (grown_setCell _ ⟨rv, 1, none⟩ _) (by have := HRZ.out; simp; omega))
            replace HB := Lib.hid (show Below w.heap.size w W16 by rw [← hWn]; exact (HB.out.setCell (p := ⟨rv, 0, none⟩) (by have := HRZ.out; simp only; omega) _).setCell (p := ⟨rv, 1, none⟩) (by have := HRZ.out; simp only; omega) _)
            replace HRV := Lib.hid (show At2 W16 rv (.slice no 2 nc) (nu) by rw [← hWn]; exact At2.put2 HRV.out _ _)
            clear hWn
            refine hK.out _ _ ?_ (fun hHeld => ?_)
            · exact ⟨HA.out.2.1, HA.out.2.2.1⟩
            clear hK K
            refine wpAnyH_take (i := 13) (v := ?_) rfl (by kernel_rfl) (by kernel_rfl) (by kernel_rfl) (fun _ _ _ h => h) (Or.inl ⟨by rfl, ?_⟩) (by assumption) ?_
            rotate_left
            · (intro w hSw; (try dsimp only at hSw); go_simp; try with_reducible rfl)
            simp only [Act.put, List.getElem_toArray, List.getElem_cons_succ, List.getElem_cons_zero, List.setIfInBounds_toArray, List.set_cons_zero, List.set_cons_succ]
            refine wpAnyH_done (by kernel_rfl) ?_ _
            clear hHeld
            have cHA0 := HA.out.2.1
            have cHA1 := HA.out.2.2.1
            have cHR0 := HR.out.2.1
            have cHR1 := HR.out.2.2.1
            have zHR0 := HR.out.2.2.2 0
            have zHR1 := HR.out.2.2.2 1
            have cHRV0 := HRV.out.2.1
            have cHRV1 := HRV.out.2.2.1
            go_wp2_with fail
            refine bodyPost_ret (v := .agg #[.slice no 2 nc, nu]) (by simp [results, Tryz.results14, go_sem, World.cell?_setCell_same, cHR0, cHR1]) rfl ⟨_, _, nu, rfl, ?_, (HB.out.setCell (Nat.le_succ _) _).setCell (Nat.le_succ _) _⟩
            exact IsArr.keep (ok := fun b => b ≠ w.heap.size + 1) ((Kept.setCell _ _ _ (fun h => h rfl)).trans (Kept.setCell _ _ _ (fun h => h rfl))) (fun _ _ _ => trivial) HX.out
          exact AllReadyH.nil
        exact AllReadyH.nil
      refine AllReadyH.cons (o := _) rfl (fun K hK => ?_) ?_
      · clear hHeld
        go_simp
        obtain ⟨W14, hWn⟩ : ∃ xw9, W13.alloc (.cells #[.slice none 0 0, .nilIface] 31) = xw9 := ⟨_, rfl⟩
        have hB : Below W13.heap.size W13 W14 := by rw [← hWn]; exact below_new _ _
        have hNB : At2 W14 W13.heap.size (.slice none 0 0) (.nilIface) := by rw [← hWn]; exact At2.new _ _ _ _
        rw [hWn]
        clear hWn
        obtain ⟨rv, hnm⟩ : ∃ x, W13.heap.size = x := ⟨_, rfl⟩
        rw [hnm] at hNB ⊢
        replace HZ := Lib.hid (And.intro HZ.out (And.intro hnm hNB.1))
        replace HA := Lib.hid (HA.out.below hB)
        replace HR := Lib.hid (HR.out.below hB)
        replace HB := Lib.hid (HB.out.trans (hB.mono HB.out.size))
        replace HW1 := Lib.hid (HW1.out.trans (hB.mono HW1.out.size))
        replace HV := Lib.hid (HV.out.grow hB)
        replace HS := Lib.hid (HS.out.below hB)
        replace HT := Lib.hid (fun j hj => keep_below hB _ _ (HT.out j hj))
        replace HSL := Lib.hid (HSL.out.below hB)
        have HRV := Lib.hid hNB
        clear hNB hB hnm
        refine hK.out _ _ ?_ (fun hHeld => ?_)
        · exact ⟨HA.out.2.1, HA.out.2.2.1⟩
        clear hK K
        refine wpAnyH_ready (rs := [7]) (by kernel_rfl) (by simp) ?_
        refine AllReadyH.cons (o := _) rfl (fun K hK => ?_) ?_
        · clear hHeld
          go_simp
          refine (vnew_ok _ u [a, M] V _ HSL.out (by simp) HV.out HOK.out HNM.out HT.out).mono ?_
          rintro e W15 ⟨ns, nu, rfl, hn1, hn2, hB⟩
          replace HZ := Lib.hid (And.intro HZ.out hB.size)
          replace HA := Lib.hid (HA.out.below hB)
          replace HR := Lib.hid (HR.out.below hB)
          replace HB := Lib.hid (HB.out.trans (hB.mono HB.out.size))
          replace HW1 := Lib.hid (HW1.out.trans (hB.mono HW1.out.size))
          replace HV := Lib.hid (HV.out.grow hB)
          replace HS := Lib.hid (HS.out.below hB)
          replace HT := Lib.hid (fun j hj => keep_below hB _ _ (HT.out j hj))
          replace HSL := Lib.hid (HSL.out.below hB)
          replace HRV := Lib.hid (HRV.out.below hB)
          have e0 : newE [a, M] V = 0 := newE_fit HPT.out (VV.kind_pos HLS.out)
          rw [tight_sq HLS.out] at hn1
          rw [e0]
          have hra := hn1 e0
          obtain ⟨no, nc, rfl, _⟩ := hra.1.opened
          have HX := Lib.hid (show IsArr W15 (fun b => b < w.heap.size ∨ (W14.heap.size ≤ b ∧ b < W15.heap.size)) (.slice no 2 nc) nu ([a, M], V) from hra.wide (fun b h1 h2 => by rcases h2 with h2 | h2; exact Or.inl h2.1; exact Or.inr ⟨h2, h1⟩))
          have hsn := hra.2.store
          clear hn1 hn2 e0 hra
          clear hB
          refine hK.out _ _ ?_ (fun hHeld => ?_)
          · exact ⟨HA.out.2.1, HA.out.2.2.1⟩
          clear hK K
          refine wpAnyH_take (i := 8) (v := ?_) rfl (by kernel_rfl) (by kernel_rfl) (by kernel_rfl) (fun _ _ _ h => h) (Or.inl ⟨by rfl, ?_⟩) (by assumption) ?_
          rotate_left
          · (intro w hSw; (try dsimp only at hSw); go_simp; try with_reducible rfl)
          simp only [Act.put, List.getElem_toArray, List.getElem_cons_succ, List.getElem_cons_zero, List.setIfInBounds_toArray, List.set_cons_zero, List.set_cons_succ]
          refine wpAnyH_take (i := 9) (v := ?_) rfl (by kernel_rfl) (by kernel_rfl) (by kernel_rfl) (fun _ _ _ h => h) (Or.inl ⟨by rfl, ?_⟩) (by assumption) ?_
          rotate_left
          · (intro w hSw; (try dsimp only at hSw); go_simp; try with_reducible rfl)
          simp only [Act.put, List.getElem_toArray, List.getElem_cons_succ, List.getElem_cons_zero, List.setIfInBounds_toArray, List.set_cons_zero, List.set_cons_succ]
          refine wpAnyH_take (i := 10) (v := ?_) rfl (by kernel_rfl) (by kernel_rfl) (by kernel_rfl) (fun _ _ _ h => h) (Or.inl ⟨by rfl, ?_⟩) (by assumption) ?_
          rotate_left
          · (intro w hSw; (try dsimp only at hSw); go_simp; try with_reducible rfl)
          simp only [Act.put, List.getElem_toArray, List.getElem_cons_succ, List.getElem_cons_zero, List.setIfInBounds_toArray, List.set_cons_zero, List.set_cons_succ]
          refine wpAnyH_ready (rs := [12]) (by kernel_rfl) (by simp) ?_
          refine AllReadyH.cons (o := _) rfl (fun K hK => ?_) ?_
          · clear hHeld
            have s0 := HRV.out.2.1
            have t0 := HRV.out.2.2.2 0
            have s1 := HRV.out.2.2.1
            have t1 := HRV.out.2.2.2 1
            go_simp
            clear s0 t0 s1 t1
            obtain ⟨W16, hWn⟩ : ∃ xw9, (W15.setCell ⟨rv, 0, none⟩ (.slice no 2 nc)).setCell ⟨rv, 1, none⟩ (nu) = xw9 := ⟨_, rfl⟩
            rw [hWn]
            have HRZ := Lib.hid (show w.heap.size + 2 ≤ rv by have := HZ.out; omega)
            replace HX := Lib.hid (show IsArr W16 (fun b => b ≠ w.heap.size + 1) (.slice no 2 nc) nu ([a, M], V) by
              rw [← hWn]
              exact (HX.out.wide (ok' := fun b => b ≠ rv ∧ b ≠ w.heap.size + 1) (fun b _ h => by have := HZ.out; omega)).keep ((Kept.setCell _ _ _ (fun h => h.1 rfl)).trans (Kept.setCell _ _ _ (fun h => h.1 rfl))) (fun _ _ h => h.2))
            replace HA := Lib.hid (show At2 W16 w.heap.size (.slice so n sc) u by rw [← hWn]; exact (HA.out.grown (grown_setCell _ ⟨rv, 0, none⟩ _) (by have := HRZ.out; simp; omega)).grown (grown_setCell _ ⟨rv, 1, none⟩ _) (by have := HRZ.out; simp; omega))
            replace HR := Lib.hid (show At2 W16 (w.heap.size + 1) (.slice none 0 0) .nilIface by rw [← hWn]; exact (HR.out.grown (grown_setCell _ ⟨rv, 0, none⟩ _) (by have := HRZ.out; simp; omega)).grown (grown_setCell _ ⟨rv, 1, none⟩ _) (by have := HRZ.out; simp; omega))
            replace HB := Lib.hid (show Below w.heap.size w W16 by rw [← hWn]; exact (HB.out.setCell (p := ⟨rv, 0, none⟩) (by have := HRZ.out; simp only; omega) _).setCell (p := ⟨rv, 1, none⟩) (by have := HRZ.out; simp only; omega) _)
            replace HRV := Lib.hid (show At2 W16 rv (.slice no 2 nc) (nu) by rw [← hWn]; exact At2.put2 HRV.out _ _)
            clear hWn
            refine hK.out _ _ ?_ (fun hHeld => ?_)
            · exact ⟨HA.out.2.1, HA.out.2.2.1⟩
            clear hK K
            refine wpAnyH_take (i := 13) (v := ?_) rfl (by kernel_rfl) (by kernel_rfl) (by kernel_rfl) (fun _ _ _ h => h) (Or.inl ⟨by rfl, ?_⟩) (by assumption) ?_
            rotate_left
            · (intro w hSw; (try dsimp only at hSw); go_simp; try with_reducible rfl)
            simp only [Act.put, List.getElem_toArray, List.getElem_cons_succ, List.getElem_cons_zero, List.setIfInBounds_toArray, List.set_cons_zero, List.set_cons_succ]
            refine wpAnyH_done (by kernel_rfl) ?_ _
            clear hHeld
            have cHA0 := HA.out.2.1
            have cHA1 := HA.out.2.2.1
            have cHR0 := HR.out.2.1
            have cHR1 := HR.out.2.2.1
            have zHR0 := HR.out.2.2.2 0
            have zHR1 := HR.out.2.2.2 1
            have cHRV0 := HRV.out.2.1
            have cHRV1 := HRV.out.2.2.1
            go_wp2_with fail
            refine bodyPost_ret (v := .agg #[.slice no 2 nc, nu]) (by simp [results, Tryz.results14, go_sem, World.cell?_setCell_same, cHR0, cHR1]) rfl ⟨_, _, nu, rfl, ?_, (HB.out.setCell (Nat.le_succ _) _).setCell (Nat.le_succ _) _⟩
            exact IsArr.keep (ok := fun b => b ≠ w.heap.size + 1) ((Kept.setCell _ _ _ (fun h => h rfl)).trans (Kept.setCell _ _ _ (fun h => h rfl))) (fun _ _ _ => trivial) HX.out
          exact AllReadyH.nil
        exact AllReadyH.nil
      exact AllReadyH.nil
    refine AllReadyH.cons (o := _) rfl (fun K hK => ?_) ?_
    · clear hHeld
      go_simp
      obtain ⟨W13, hWn⟩ : ∃ xw9, W12.alloc (.cells #[.slice none 0 0, .nilIface] 31) = xw9 := ⟨_, rfl⟩
      have hB : Below W12.heap.size W12 W13 := by rw [← hWn]; exact below_new _ _
      have hNB : At2 W13 W12.heap.size (.slice none 0 0) (.nilIface) := by rw [← hWn]; exact At2.new _ _ _ _
      rw [hWn]
      clear hWn
      obtain ⟨rv, hnm⟩ : ∃ x, W12.heap.size = x := ⟨_, rfl⟩
      rw [hnm] at hNB ⊢
      replace HZ := Lib.hid (And.intro HZ.out (And.intro hnm hNB.1))
      replace HA := Lib.hid (HA.out.below hB)
      replace HR := Lib.hid (HR.out.below hB)
      replace HB := Lib.hid (HB.out.trans (hB.mono HB.out.size))
      replace HW1 := Lib.hid (HW1.out.trans (hB.mono HW1.out.size))
      replace HV := Lib.hid (HV.out.grow hB)
      replace HS := Lib.hid (HS.out.below hB)
      replace HT := Lib.hid (fun j hj => keep_below hB _ _ (HT.out j hj))
      have HRV := Lib.hid hNB
      clear hNB hB hnm
      refine hK.out _ _ ?_ (fun hHeld => ?_)
      · exact ⟨HA.out.2.1, HA.out.2.2.1⟩
      clear hK K
      refine wpAnyH_ready (rs := [4]) (by kernel_rfl) (by simp) ?_
      refine AllReadyH.cons (o := _) rfl (fun K hK => ?_) ?_
      · clear hHeld
        go_simp
        obtain ⟨W14, hWn⟩ : ∃ xw9, W13.alloc (.cells #[.int .i64 a, .int .i64 M] 3) = xw9 := ⟨_, rfl⟩
        have hB : Below W13.heap.size W13 W14 := by rw [← hWn]; exact below_new _ _
        have hNB : Slc W14 (fun _ => True) (.slice (some ⟨W13.heap.size, 0, none⟩) 2 2) 2 (ints [a, M]) := by
          rw [← hWn]; exact (Slc.owned (World.ownsRow_lit (base := 0) (e := 3) (size := 1) W13 #[.int .i64 a, .int .i64 M] 2 (Nat.zero_le _) (by unfold maxLen; omega) rfl)).keep (Kept.refl _ _) (fun _ _ _ => trivial)
        rw [hWn]
        clear hWn
        obtain ⟨bl, hnm⟩ : ∃ x, W13.heap.size = x := ⟨_, rfl⟩
        rw [hnm] at hNB ⊢
        replace HZ := Lib.hid (And.intro HZ.out hB.size)
        replace HA := Lib.hid (HA.out.below hB)
        replace HR := Lib.hid (HR.out.below hB)
        replace HB := Lib.hid (HB.out.trans (hB.mono HB.out.size))
        replace HW1 := Lib.hid (HW1.out.trans (hB.mono HW1.out.size))
        replace HV := Lib.hid (HV.out.grow hB)
        replace HS := Lib.hid (HS.out.below hB)
        replace HT := Lib.hid (fun j hj => keep_below hB _ _ (HT.out j hj))
        replace HRV := Lib.hid (HRV.out.below hB)
        have HSL := Lib.hid hNB
        clear hNB hB hnm
        refine hK.out _ _ ?_ (fun hHeld => ?_)
        · exact ⟨HA.out.2.1, HA.out.2.2.1⟩
        clear hK K
        refine wpAnyH_ready (rs := [7]) (by kernel_rfl) (by simp) ?_
        refine AllReadyH.cons (o := _) rfl (fun K hK => ?_) ?_
        · clear hHeld
          go_simp
          refine (vnew_ok _ u [a, M] V _ HSL.out (by simp) HV.out HOK.out HNM.out HT.out).mono ?_
          rintro e W15 ⟨ns, nu, rfl, hn1, hn2, hB⟩
          replace HZ := Lib.hid (And.intro HZ.out hB.size)
          replace HA := Lib.hid (HA.out.below hB)
          replace HR := Lib.hid (HR.out.below hB)
          replace HB := Lib.hid (HB.out.trans (hB.mono HB.out.size))
          replace HW1 := Lib.hid (HW1.out.trans (hB.mono HW1.out.size))
          replace HV := Lib.hid (HV.out.grow hB)
          replace HS := Lib.hid (HS.out.below hB)
          replace HT := Lib.hid (fun j hj => keep_below hB _ _ (HT.out j hj))
          replace HRV := Lib.hid (HRV.out.below hB)
          replace HSL := Lib.hid (HSL.out.below hB)
          have e0 : newE [a, M] V = 0 := newE_fit HPT.out (VV.kind_pos HLS.out)
          rw [tight_sq HLS.out] at hn1
          rw [e0]
          have hra := hn1 e0
          obtain ⟨no, nc, rfl, _⟩ := hra.1.opened
          have HX := Lib.hid (show IsArr W15 (fun b => b < w.heap.size ∨ (W14.heap.size ≤ b ∧ b < W15.heap.size)) (.slice no 2 nc) nu ([a, M], V) from hra.wide (fun b h1 h2 => by rcases h2 with h2 | h2; exact Or.inl h2.1; exact Or.inr ⟨h2, h1⟩))
          have hsn := hra.2.store
          clear hn1 hn2 e0 hra
          clear hB
          refine hK.out _ _ ?_ (fun hHeld => ?_)
          · exact ⟨HA.out.2.1, HA.out.2.2.1⟩
          clear hK K
          refine wpAnyH_take (i := 8) (v := ?_) rfl (by kernel_rfl) (by kernel_rfl) (by kernel_rfl) (fun _ _ _ h => h) (Or.inl ⟨by rfl, ?_⟩) (by assumption) ?_
          rotate_left
          · (intro w hSw; (try dsimp only at hSw); go_simp; try with_reducible rfl)
          simp only [Act.put, List.getElem_toArray, List.getElem_cons_succ, List.getElem_cons_zero, List.setIfInBounds_toArray, List.set_cons_zero, List.set_cons_succ]
          refine wpAnyH_take (i := 9) (v := ?_) rfl (by kernel_rfl) (by kernel_rfl) (by kernel_rfl) (fun _ _ _ h => h) (Or.inl ⟨by rfl, ?_⟩) (by assumption) ?_
          rotate_left
          · (intro w hSw; (try dsimp only at hSw); go_simp; try with_reducible rfl)
          simp only [Act.put, List.getElem_toArray, List.getElem_cons_succ, List.getElem_cons_zero, List.setIfInBounds_toArray, List.set_cons_zero, List.set_cons_succ]
          refine wpAnyH_take (i := 10) (v := ?_) rfl (by kernel_rfl) (by kernel_rfl) (by kernel_rfl) (fun _ _ _ h => h) (Or.inl ⟨by rfl, ?_⟩) (by assumption) ?_
          rotate_left
          · (intro w hSw; (try dsimp only at hSw); go_simp; try with_reducible rfl)
          simp only [Act.put, List.getElem_toArray, List.getElem_cons_succ, List.getElem_cons_zero, List.setIfInBounds_toArray, List.set_cons_zero, List.set_cons_succ]
          refine wpAnyH_ready (rs := [12]) (by kernel_rfl) (by simp) ?_
          refine AllReadyH.cons (o := _) rfl (fun K hK => ?_) ?_
          · clear hHeld
            have s0 := HRV.out.2.1
            have t0 := HRV.out.2.2.2 0
            have s1 := HRV.out.2.2.1
            have t1 := HRV.out.2.2.2 1
            go_simp
            clear s0 t0 s1 t1
            obtain ⟨W16, hWn⟩ : ∃ xw9, (W15.setCell ⟨rv, 0, none⟩ (.slice no 2 nc)).setCell ⟨rv, 1, none⟩ (nu) = xw9 := ⟨_, rfl⟩
            rw [hWn]
            have HRZ := Lib.hid (show w.heap.size + 2 ≤ rv by have := HZ.out; omega)
            replace HX := Lib.hid (show IsArr W16 (fun b => b ≠ w.heap.size + 1) (.slice no 2 nc) nu ([a, M], V) by
              rw [← hWn]
              exact (HX.out.wide (ok' := fun b => b ≠ rv ∧ b ≠ w.heap.size + 1) (fun b _ h => by have := HZ.out; omega)).keep ((Kept.setCell _ _ _ (fun h => h.1 rfl)).trans (Kept.setCell _ _ _ (fun h => h.1 rfl))) (fun _ _ h => h.2))
            replace HA := Lib.hid (show At2 W16 w.heap.size (.slice so n sc) u by rw [← hWn]; exact (HA.out.grown (grown_setCell _ ⟨rv, 0, none⟩ _) (by have := HRZ.out; simp; omega)).grown (grown_setCell _ ⟨rv, 1, none⟩ _) (by have := HRZ.out; simp; omega))
            replace HR := Lib.hid (show At2 W16 (w.heap.size + 1) (.slice none 0 0) .nilIface by rw [← hWn]; exact (HR.out.grown (grown_setCell _ ⟨rv, 0, none⟩ _) (by have := HRZ.out; simp; omega)).grown (grown_setCell _ ⟨rv, 1, none⟩ _) (by have := HRZ.out; simp; omega))
            replace HB := Lib.hid (show Below w.heap.size w W16 by rw [← hWn]; exact (HB.out.setCell (p := ⟨rv, 0, none⟩) (by have := HRZ.out; simp only; omega) _).setCell (p := ⟨rv, 1, none⟩) (by have := HRZ.out; simp only; omega) _)
            replace HRV := Lib.hid (show At2 W16 rv (.slice no 2 nc) (nu) by rw [← hWn]; exact At2.put2 HRV.out _ _)
            clear hWn
            refine hK.out _ _ ?_ (fun hHeld => ?_)
            · exact ⟨HA.out.2.1, HA.out.2.2.1⟩
            clear hK K
            refine wpAnyH_take (i := 13) (v := ?_) rfl (by kernel_rfl) (by kernel_rfl) (by kernel_rfl) (fun _ _ _ h => h) (Or.inl ⟨by rfl, ?_⟩) (by assumption) ?_
            rotate_left
            · (intro w hSw; (try dsimp only at hSw); go_simp; try with_reducible rfl)
            simp only [Act.put, List.getElem_toArray, List.getElem_cons_succ, List.getElem_cons_zero, List.setIfInBounds_toArray, List.set_cons_zero, List.set_cons_succ]
            refine wpAnyH_done (by kernel_rfl) ?_ _
            clear hHeld
            have cHA0 := HA.out.2.1
            have cHA1 := HA.out.2.2.1
            have cHR0 := HR.out.2.1
            have cHR1 := HR.out.2.2.1
            have zHR0 := HR.out.2.2.2 0
            have zHR1 := HR.out.2.2.2 1
            have cHRV0 := HRV.out.2.1
            have cHRV1 := HRV.out.2.2.1
            go_wp2_with fail
            refine bodyPost_ret (v := .agg #[.slice no 2 nc, nu]) (by simp [results, Tryz.results14, go_sem, World.cell?_setCell_same, cHR0, cHR1]) rfl ⟨_, _, nu, rfl, ?_, (HB.out.setCell (Nat.le_succ _) _).setCell (Nat.le_succ _) _⟩
            exact IsArr.keep (ok := fun b => b ≠ w.heap.size + 1) ((Kept.setCell _ _ _ (fun h => h rfl)).trans (Kept.setCell _ _ _ (fun h => h rfl))) (fun _ _ _ => trivial) HX.out
          exact AllReadyH.nil
        exact AllReadyH.nil
      exact AllReadyH.nil
    exact AllReadyH.nil
  refine AllReadyH.cons (o := _) rfl (fun K hK => ?_) ?_
  · clear hHeld
    go_simp
    obtain ⟨W13, hWn⟩ : ∃ xw9, W12.alloc (.cells #[.slice none 0 0, .nilIface] 31) = xw9 := ⟨_, rfl⟩
    have hB : Below W12.heap.size W12 W13 := by rw [← hWn]; exact below_new _ _
    have hNB : At2 W13 W12.heap.size (.slice none 0 0) (.nilIface) := by rw [← hWn]; exact At2.new _ _ _ _
    rw [hWn]
    clear hWn
    obtain ⟨rv, hnm⟩ : ∃ x, W12.heap.size = x := ⟨_, rfl⟩
    rw [hnm] at hNB ⊢
    replace HZ := Lib.hid (And.intro HZ.out (And.intro hnm hNB.1))
    replace HA := Lib.hid (HA.out.below hB)
    replace HR := Lib.hid (HR.out.below hB)
    replace HB := Lib.hid (HB.out.trans (hB.mono HB.out.size))
    replace HW1 := Lib.hid (HW1.out.trans (hB.mono HW1.out.size))
    replace HV := Lib.hid (HV.out.grow hB)
    replace HS := Lib.hid (HS.out.below hB)
    replace HT := Lib.hid (fun j hj => keep_below hB _ _ (HT.out j hj))
    have HRV := Lib.hid hNB
    clear hNB hB hnm
    refine hK.out _ _ ?_ (fun hHeld => ?_)
    · exact ⟨HA.out.2.1, HA.out.2.2.1⟩
    clear hK K
    refine wpAnyH_ready (rs := [2]) (by kernel_rfl) (by simp) ?_
    refine AllReadyH.cons (o := _) rfl (fun K hK => ?_) ?_
    · clear hHeld
      go_simp
      refine (rstal_calls _ s _ (by rw [HN.out]; exact HS.out)).mono ?_
      rintro e w9 ⟨rfl, rfl⟩
      rw [HTN.out]
      refine hK.out _ _ ?_ (fun hHeld => ?_)
      · exact ⟨HA.out.2.1, HA.out.2.2.1⟩
      clear hK K
      refine wpAnyH_ready (rs := [4]) (by kernel_rfl) (by simp) ?_
      refine AllReadyH.cons (o := _) rfl (fun K hK => ?_) ?_
      · clear hHeld
        go_simp
        obtain ⟨W14, hWn⟩ : ∃ xw9, W13.alloc (.cells #[.int .i64 a, .int .i64 M] 3) = xw9 := ⟨_, rfl⟩
        have hB : Below W13.heap.size W13 W14 := by rw [← hWn]; exact below_new _ _
        have hNB : Slc W14 (fun _ => True) (.slice (some ⟨W13.heap.size, 0, none⟩) 2 2) 2 (ints [a, M]) := by
          rw [← hWn]; exact (Slc.owned (World.ownsRow_lit (base := 0) (e := 3) (size := 1) W13 #[.int .i64 a, .int .i64 M] 2 (Nat.zero_le _) (by unfold maxLen; omega) rfl)).keep (Kept.refl _ _) (fun _ _ _ => trivial)
        rw [hWn]
        clear hWn
        obtain ⟨bl, hnm⟩ : ∃ x, W13.heap.size = x := ⟨_, rfl⟩
        rw [hnm] at hNB ⊢
        replace HZ := Lib.hid (And.intro HZ.out hB.size)
        replace HA := Lib.hid (HA.out.below hB)
        replace HR := Lib.hid (HR.out.below hB)
        replace HB := Lib.hid (HB.out.trans (hB.mono HB.out.size))
        replace HW1 := Lib.hid (HW1.out.trans (hB.mono HW1.out.size))
        replace HV := Lib.hid (HV.out.grow hB)
        replace HS := Lib.hid (HS.out.below hB)
        replace HT := Lib.hid (fun j hj => keep_below hB _ _ (HT.out j hj))
        replace HRV := Lib.hid (HRV.out.below hB)
        have HSL := Lib.hid hNB
        clear hNB hB hnm
        refine hK.out _ _ ?_ (fun hHeld => ?_)
        · exact ⟨HA.out.2.1, HA.out.2.2.1⟩
        clear hK K
        refine wpAnyH_ready (rs := [7]) (by kernel_rfl) (by simp) ?_
        refine AllReadyH.cons (o := _) rfl (fun K hK => ?_) ?_
        · clear hHeld
          go_simp
          refine (vnew_ok _ u [a, M] V _ HSL.out (by simp) HV.out HOK.out HNM.out HT.out).mono ?_
          rintro e W15 ⟨ns, nu, rfl, hn1, hn2, hB⟩
          replace HZ := Lib.hid (And.intro HZ.out hB.size)
          replace HA := Lib.hid (HA.out.below hB)
          replace HR := Lib.hid (HR.out.below hB)
          replace HB := Lib.hid (HB.out.trans (hB.mono HB.out.size))
          replace HW1 := Lib.hid (HW1.out.trans (hB.mono HW1.out.size))
          replace HV := Lib.hid (HV.out.grow hB)
          replace HS := Lib.hid (HS.out.below hB)
          replace HT := Lib.hid (fun j hj => keep_below hB _ _ (HT.out j hj))
          replace HRV := Lib.hid (HRV.out.below hB)
          replace HSL := Lib.hid (HSL.out.below hB)
          have e0 : newE [a, M] V = 0 := newE_fit HPT.out (VV.kind_pos HLS.out)
          rw [tight_sq HLS.out] at hn1
          rw [e0]
          have hra := hn1 e0
          obtain ⟨no, nc, rfl, _⟩ := hra.1.opened
          have HX := Lib.hid (show IsArr W15 (fun b => b < w.heap.size ∨ (W14.heap.size ≤ b ∧ b < W15.heap.size)) (.slice no 2 nc) nu ([a, M], V) from hra.wide (fun b h1 h2 => by rcases h2 with h2 | h2; exact Or.inl h2.1; exact Or.inr ⟨h2, h1⟩))
          have hsn := hra.2.store
          clear hn1 hn2 e0 hra
          clear hB
          refine hK.out _ _ ?_ (fun hHeld => ?_)
          · exact ⟨HA.out.2.1, HA.out.2.2.1⟩
          clear hK K
          refine wpAnyH_take (i := 8) (v := ?_) rfl (by kernel_rfl) (by kernel_rfl) (by kernel_rfl) (fun _ _ _ h => h) (Or.inl ⟨by rfl, ?_⟩) (by assumption) ?_
          rotate_left
          · (intro w hSw; (try dsimp only at hSw); go_simp; try with_reducible rfl)
          simp only [Act.put, List.getElem_toArray, List.getElem_cons_succ, List.getElem_cons_zero, List.setIfInBounds_toArray, List.set_cons_zero, List.set_cons_succ]
          refine wpAnyH_take (i := 9) (v := ?_) rfl (by kernel_rfl) (by kernel_rfl) (by kernel_rfl) (fun _ _ _ h => h) (Or.inl ⟨by rfl, ?_⟩) (by assumption) ?_
          rotate_left
          · (intro w hSw; (try dsimp only at hSw); go_simp; try with_reducible rfl)
          simp only [Act.put, List.getElem_toArray, List.getElem_cons_succ, List.getElem_cons_zero, List.setIfInBounds_toArray, List.set_cons_zero, List.set_cons_succ]
          refine wpAnyH_take (i := 10) (v := ?_) rfl (by kernel_rfl) (by kernel_rfl) (by kernel_rfl) (fun _ _ _ h => h) (Or.inl ⟨by rfl, ?_⟩) (by assumption) ?_
          rotate_left
          · (intro w hSw; (try dsimp only at hSw); go_simp; try with_reducible rfl)
          simp only [Act.put, List.getElem_toArray, List.getElem_cons_succ, List.getElem_cons_zero, List.setIfInBounds_toArray, List.set_cons_zero, List.set_cons_succ]
          refine wpAnyH_ready (rs := [12]) (by kernel_rfl) (by simp) ?_
          refine AllReadyH.cons (o := _) rfl (fun K hK => ?_) ?_
          · clear hHeld
            have s0 := HRV.out.2.1
            have t0 := HRV.out.2.2.2 0
            have s1 := HRV.out.2.2.1
            have t1 := HRV.out.2.2.2 1
            go_simp
            clear s0 t0 s1 t1
            obtain ⟨W16, hWn⟩ : ∃ xw9, (W15.setCell ⟨rv, 0, none⟩ (.slice no 2 nc)).setCell ⟨rv, 1, none⟩ (nu) = xw9 := ⟨_, rfl⟩
            rw [hWn]
            have HRZ := Lib.hid (show w.heap.size + 2 ≤ rv by have := HZ.out; omega)
            replace HX := Lib.hid (show IsArr W16 (fun b => b ≠ w.heap.size + 1) (.slice no 2 nc) nu ([a, M], V) by
              rw [← hWn]
              exact (HX.out.wide (ok' := fun b => b ≠ rv ∧ b ≠ w.heap.size + 1) (fun b _ h => by have := HZ.out; omega)).keep ((Kept.setCell _ _ _ (fun h => h.1 rfl)).trans (Kept.setCell _ _ _ (fun h => h.1 rfl))) (fun _ _ h => h.2))
            replace HA := Lib.hid (show At2 W16 w.heap.size (.slice so n sc) u by rw [← hWn]; exact (HA.out.grown (grown_setCell _ ⟨rv, 0, none⟩ _) (by have := HRZ.out; simp; omega)).grown (grown_setCell _ ⟨rv, 1, none⟩ _) (by have := HRZ.out; simp; omega))
            replace HR := Lib.hid (show At2 W16 (w.heap.size + 1) (.slice none 0 0) .nilIface by rw [← hWn]; exact (HR.out.grown (grown_setCell _ ⟨rv, 0, none⟩ _) (by have := HRZ.out; simp; omega)).grown (grown_setCell _ ⟨rv, 1, none⟩ _) (by have := HRZ.out; simp; omega))
            replace HB := Lib.hid (show Below w.heap.size w W16 by rw [← hWn]; exact (HB.out.setCell (p := ⟨rv, 0, none⟩) (by have := HRZ.out; simp only; omega) _).setCell (p := ⟨rv, 1, none⟩) (by have := HRZ.out; simp only; omega) _)
            replace HRV := Lib.hid (show At2 W16 rv (.slice no 2 nc) (nu) by rw [← hWn]; exact At2.put2 HRV.out _ _)
            clear hWn
            refine hK.out _ _ ?_ (fun hHeld => ?_)
            · exact ⟨HA.out.2.1, HA.out.2.2.1⟩
            clear hK K
            refine wpAnyH_take (i := 13) (v := ?_) rfl (by kernel_rfl) (by kernel_rfl) (by kernel_rfl) (fun _ _ _ h => h) (Or.inl ⟨by rfl, ?_⟩) (by assumption) ?_
            rotate_left
            · (intro w hSw; (try dsimp only at hSw); go_simp; try with_reducible rfl)
            simp only [Act.put, List.getElem_toArray, List.getElem_cons_succ, List.getElem_cons_zero, List.setIfInBounds_toArray, List.set_cons_zero, List.set_cons_succ]
            refine wpAnyH_done (by kernel_rfl) ?_ _
            clear hHeld
            have cHA0 := HA.out.2.1
            have cHA1 := HA.out.2.2.1
            have cHR0 := HR.out.2.1
            have cHR1 := HR.out.2.2.1
            have zHR0 := HR.out.2.2.2 0
            have zHR1 := HR.out.2.2.2 1
            have cHRV0 := HRV.out.2.1
            have cHRV1 := HRV.out.2.2.1
            go_wp2_with fail
            refine bodyPost_ret (v := .agg #[.slice no 2 nc, nu]) (by simp [results, Tryz.results14, go_sem, World.cell?_setCell_same, cHR0, cHR1]) rfl ⟨_, _, nu, rfl, ?_, (HB.out.setCell (Nat.le_succ _) _).setCell (Nat.le_succ _) _⟩
            exact IsArr.keep (ok := fun b => b ≠ w.heap.size + 1) ((Kept.setCell _ _ _ (fun h => h rfl)).trans (Kept.setCell _ _ _ (fun h => h rfl))) (fun _ _ _ => trivial) HX.out
          exact AllReadyH.nil
        exact AllReadyH.nil
      exact AllReadyH.nil
    exact AllReadyH.nil
  exact AllReadyH.nil
end Go.Proofs.YtbfcdpabjailcaaGreatDoor

/- Layer 20, walked: integers, Reshape. Written by tools/gen_rsd.py. -/
namespace Go.Proofs.YtbfcdpabjailcaaGreatDoor
set_option maxRecDepth 100000
open Go.RowKit Fl
set_option linter.unusedVariables false

/-- Why an array is no list of whole numbers; 0, if it is. -/
noncomputable def inE (A : List Int × VV) : Int := if 1 < A.1.length then 22 else if A.2.sq.isWh = false then 24 else 0
def IntsOr (c : Int) (l : List Int) (w : World) (e : Ending) (w' : World) : Prop := ∃ v, e = .returned (.tuple #[v, .int .i64 c]) ∧ (c = 0 → Slc w' (fun b => w.heap.size ≤ b) v l.length (ints l)) ∧ (c ≠ 0 → v = .slice none 0 0) ∧ Below w.heap.size w w'
set_option maxHeartbeats 4000000 in
theorem rsints_calls {ok : Nat → Prop} (sh u : Value) (A : List Int × VV) (w : World) (h : IsArr w ok sh u A) (hok : A.2.ok) (hn : A.2.nm) (hT : TabAt w) :
    Calls Tryz.prog 35 #[.agg #[sh, u]] w (IntsOr (inE A) A.2.sq.whs w) := by
  obtain ⟨so, sc, rfl, _⟩ := h.1.opened
  obtain ⟨s, V⟩ := A
  simp only at hok hn h ⊢
  have hsu := h.2.store
  obtain ⟨n, hne⟩ : ∃ n, s.length = n := ⟨_, rfl⟩
  have HN := Lib.hid hne
  have HOK := Lib.hid hok
  have HNM := Lib.hid hn
  have HOS := Lib.hid (VV.sq_spec hok hn).2.2.2.1
  obtain ⟨ce, hce⟩ : ∃ ce, inE (s, V) = ce := ⟨_, rfl⟩
  have hce2 : ce = if 1 < s.length then 22 else if V.sq.isWh = false then 24 else 0 := hce.symm
  rw [hce]
  rw [hne] at h hce2
  rw [hne]
  obtain ⟨W1, hW1⟩ : ∃ W1, W1 = w.alloc (.cells #[.slice so n sc, u] 31) := ⟨_, rfl⟩
  have HB := Lib.hid (show Below w.heap.size w W1 by rw [hW1]; exact below_new _ _)
  have HA := Lib.hid (show At2 W1 w.heap.size (.slice so n sc) u by rw [hW1]; exact At2.new w _ _ _)
  have HAR := Lib.hid (show IsArr W1 ok (.slice so n sc) u (s, V) from IsArr.grow (by simpa [hne] using h) HB.out)
  have HV := Lib.hid (show IsV W1 ok u V from HAR.out.2)
  have HT := Lib.hid (show TabAt W1 from fun j hj => keep_below HB.out _ _ (hT j hj))
  have HCE := Lib.hid hce2
  have hfold := hW1.symm
  clear hW1 h hok hn hT hce hne hce2
  have cHA0 := HA.out.2.1
  have cHA1 := HA.out.2.2.1
  go_enter Tryz.func35, Tryz.ntmps35
  go_wp2_with fail
  clear hfold
  refine (vrank_calls (s, V) _ _ _ HAR.out).mono ?_
  rintro e W11 ⟨rfl, hB⟩
  clear cHA0 cHA1
  replace HA := Lib.hid (HA.out.below hB)
  replace HB := Lib.hid (HB.out.trans (hB.mono HB.out.size))
  replace HAR := Lib.hid (HAR.out.grow hB)
  replace HV := Lib.hid (HV.out.grow hB)
  replace HT := Lib.hid (fun j hj => keep_below hB _ _ (HT.out j hj))
  rw [show ((s, V).1.length : Int) = (n : Int) by rw [← HN.out]]
  clear hB
  have hce2 := HCE.out
  clear HCE
  by_cases h1 : 1 < n
  · rw [if_pos h1] at hce2
    subst hce2
    have cHA0 := HA.out.2.1
    have cHA1 := HA.out.2.2.1
    go_wp2_with fail
    go_ret2
    exact ⟨_, rfl, fun h => absurd h (by decide), fun _ => rfl, HB.out⟩
  rw [if_neg h1] at hce2
  have HCE := Lib.hid hce2
  clear hce2
  have cHA0 := HA.out.2.1
  have cHA1 := HA.out.2.2.1
  go_wp2_with fail
  refine (squeeze_calls _ V _ HV.out HOK.out HNM.out HT.out).mono ?_
  rintro e W12 ⟨u', rfl, hr, hB⟩
  clear cHA0 cHA1
  replace HA := Lib.hid (HA.out.below hB)
  replace HB := Lib.hid (HB.out.trans (hB.mono HB.out.size))
  replace HAR := Lib.hid (HAR.out.grow hB)
  replace HV := Lib.hid (HV.out.grow hB)
  replace HT := Lib.hid (fun j hj => keep_below hB _ _ (HT.out j hj))
  have HQ := Lib.hid (IsV.any hr)
  clear hr
  clear hB
  go_wp2_with fail
  have HBS := Lib.hid HB.out.size
  refine (vwholes_calls _ V.sq _ HQ.out HOS.out HT.out).mono ?_
  rintro e W13 ⟨v, rfl, hv, hB⟩
  replace HA := Lib.hid (HA.out.below hB)
  replace HB := Lib.hid (HB.out.trans (hB.mono HB.out.size))
  replace HAR := Lib.hid (HAR.out.grow hB)
  replace HV := Lib.hid (HV.out.grow hB)
  replace HT := Lib.hid (fun j hj => keep_below hB _ _ (HT.out j hj))
  replace HQ := Lib.hid (HQ.out.grow hB)
  have HWV := Lib.hid (show Slc W13 (fun b => w.heap.size ≤ b) v V.sq.whs.length (ints V.sq.whs) from hv.keep (Kept.refl _ _) (fun b _ hb => Nat.le_trans HBS.out hb))
  clear hv
  obtain ⟨vo, vc, rfl, _⟩ := HWV.out.opened
  clear hB
  obtain ⟨q, hq⟩ : ∃ q, V.sq.isWh = q := ⟨_, rfl⟩
  rw [hq]
  have hce2 := HCE.out
  rw [hq] at hce2
  clear hq
  obtain ⟨wl, hwl⟩ : ∃ wl, V.sq.whs.length = wl := ⟨_, rfl⟩
  rw [hwl] at HWV ⊢
  have HWL := Lib.hid hwl
  clear hwl
  cases q
  · rw [if_pos rfl] at hce2
    subst hce2
    have cHA0 := HA.out.2.1
    have cHA1 := HA.out.2.2.1
    go_wp2_with fail
    go_ret2
    exact ⟨_, rfl, fun h => absurd h (by decide), fun _ => rfl, HB.out⟩
  · rw [if_neg (by simp)] at hce2
    subst hce2
    have cHA0 := HA.out.2.1
    have cHA1 := HA.out.2.2.1
    go_wp2_with fail
    go_ret2
    exact ⟨.slice vo wl vc, rfl, fun _ => by rw [HWL.out]; exact HWV.out, fun h => absurd rfl h, HB.out⟩

/-- The shape that a list of whole numbers says. -/
noncomputable def rsL (S : List Int × VV) : List Int := S.2.sq.whs.map lnF
noncomputable def rsE (S : List Int × VV) (most : Int) : Int := if inE S ≠ 0 then inE S else (prodR (rsL S) most).2
noncomputable def rsV (S A : List Int × VV) (most : Int) : VV := A.2.sel (againL (max A.2.len 1) (prodR (rsL S) most).1.toNat)
def RsOr (ok : Nat → Prop) (c : Int) (A : List Int × VV) (w : World) (e : Ending) (w' : World) : Prop := ∃ so sc u, e = .returned (.tuple #[.agg #[.slice so sc.1 sc.2, u], .int .i64 c]) ∧ (c = 0 → IsArr w' (fun b => (ok b ∧ b < w.heap.size) ∨ w.heap.size ≤ b) (.slice so sc.1 sc.2) u A) ∧ (c ≠ 0 → so = none ∧ sc = (0, 0) ∧ u = .nilIface) ∧ Below w.heap.size w w'
theorem whs_len20 {V : VV} (hok : V.ok) (hn : V.nm) : V.sq.whs.length ≤ 1048576 := by
  obtain ⟨_, _, _, h4, _, h6⟩ := VV.sq_spec hok hn
  have := VV.ok_len h4
  revert this
  cases V.sq <;> simp [VV.whs, VV.len]
theorem againL_len20 (c n : Nat) : (againL c n).length = n := by unfold againL; simp
theorem prodR_fits20 {s : List Int} {most : Int} {n : Int} (h : prodR s most = (n, 0)) (hm : most ≤ 1048576) : 0 ≤ n ∧ n ≤ 1048576 ∧ prodR s 1048576 = (n, 0) := by
  unfold prodR at h ⊢
  have hp := nzp_pos s
  by_cases h8 : 8 < s.length
  · rw [if_pos h8] at h; simp at h
  · rw [if_neg h8] at h ⊢
    by_cases hn : anyN s = true
    · rw [if_pos hn] at h; simp at h
    · rw [if_neg hn] at h ⊢
      by_cases hm2 : 1048576 < nzp s
      · rw [if_pos hm2] at h; simp at h
      · rw [if_neg hm2] at h ⊢
        by_cases h3 : most < (if anyZ s = true then 0 else nzp s)
        · rw [if_pos h3] at h; simp at h
        · rw [if_neg h3] at h
          have h4 : (if anyZ s = true then 0 else nzp s) = n := congrArg Prod.fst h
          have h5 : 0 ≤ (if anyZ s = true then 0 else nzp s) := by split <;> omega
          rw [if_neg (by omega), h4]
          exact ⟨by omega, by omega, rfl⟩
set_option maxHeartbeats 8000000 in
theorem rsreshape_calls {ok ok2 : Nat → Prop} (sh u sh2 u2 : Value) (S A : List Int × VV) (most : Int) (w : World) (h : IsArr w ok sh u S) (hok : S.2.ok) (hn : S.2.nm) (h2 : IsArr w ok2 sh2 u2 A) (hA : gA 40 A) (hm : most ≤ 1048576) (hT : TabAt w) :
    Calls Tryz.prog 18 #[.agg #[sh, u], .agg #[sh2, u2], .int .i64 most] w (RsOr ok2 (rsE S most) (rsL S, rsV S A most) w) := by
  obtain ⟨so, sc, rfl, _⟩ := h.1.opened
  obtain ⟨so2, sc2, rfl, _⟩ := h2.1.opened
  obtain ⟨s, V⟩ := S
  obtain ⟨s2, V2⟩ := A
  obtain ⟨g1, g2, g3, g4, g5⟩ := hA
  simp only at hok hn h h2 g1 g2 g3 g4 g5 ⊢
  have hsu := h.2.store
  have hsu2 := h2.2.store
  obtain ⟨n, hne⟩ : ∃ n, s.length = n := ⟨_, rfl⟩
  obtain ⟨n2, hne2⟩ : ∃ n2, s2.length = n2 := ⟨_, rfl⟩
  have HOK := Lib.hid hok
  have HNM := Lib.hid hn
  have HOK2 := Lib.hid g2
  have HNM2 := Lib.hid g3
  have HMO := Lib.hid hm
  have HLS2 := Lib.hid g4
  have HBX2 := Lib.hid (show ∀ a ∈ V2.boxs, a.1.length ≤ 1048576 from fun a ha => by
    have := (prodR_len (g5 a ha).1).1
    omega)
  have HSEL := Lib.hid (show ∀ l : List Int, l.length ≤ 1048576 → gV 39 (V2.sel l) from fun l hl => gV_sel ⟨g2, g3, g4, g5⟩ hl)
  have HN2 := Lib.hid hne2
  rw [hne, hne2]
  have HSL := Lib.hid (show IsArr w ok (.slice so n sc) u (s, V) by rw [← hne]; exact h)
  have HSL2 := Lib.hid (show IsArr w ok2 (.slice so2 n2 sc2) u2 (s2, V2) by rw [← hne2]; exact h2)
  obtain ⟨W1, hW1⟩ : ∃ W1, W1 = ((w.alloc (.cells #[.slice so n sc, u] 31)).alloc (.cells #[.slice so2 n2 sc2, u2] 31)).alloc (.cells #[.slice none 0 0, .nilIface] 31) := ⟨_, rfl⟩
  have HB := Lib.hid (show Below w.heap.size w W1 by rw [hW1]; exact ((below_new _ _).alloc (by simp) _).alloc (by simp; omega) _)
  have HA := Lib.hid (show At2 W1 w.heap.size (.slice so n sc) u by rw [hW1]; exact ((At2.new w _ _ _).below (below_new _ _)).below (below_new _ _))
  have HA2 := Lib.hid (show At2 W1 (w.heap.size + 1) (.slice so2 n2 sc2) u2 by rw [hW1]; have := (At2.new (w.alloc (.cells #[.slice so n sc, u] 31)) (.slice so2 n2 sc2) u2 31).below (below_new _ (.cells #[.slice none 0 0, .nilIface] 31)); simpa using this)
  have HR := Lib.hid (show At2 W1 (w.heap.size + 2) (.slice none 0 0) .nilIface by rw [hW1]; have := At2.new ((w.alloc (.cells #[.slice so n sc, u] 31)).alloc (.cells #[.slice so2 n2 sc2, u2] 31)) (.slice none 0 0) .nilIface 31; simpa using this)
  have HX := Lib.hid (show IsArr W1 (fun _ => True) (.slice so n sc) u (s, V) from (HSL.out.wide (fun _ _ _ => trivial)).grow HB.out)
  have HX2 := Lib.hid (show IsArr W1 (fun b => ok2 b ∧ b < w.heap.size) (.slice so2 n2 sc2) u2 (s2, V2) from (HSL2.out.wide (fun b hb h => ⟨h, hb⟩)).grow HB.out)
  have HV2 := Lib.hid (show IsV W1 (fun b => ok2 b ∧ b < w.heap.size) u2 V2 from HX2.out.2)
  have HT := Lib.hid (show TabAt W1 from fun j hj => keep_below HB.out _ _ (hT j hj))
  have HW1 := Lib.hid (Below.refl W1.heap.size W1)
  have HWW := Lib.hid (show W1.heap.size = w.heap.size + 3 by rw [hW1]; simp)
  obtain ⟨ie, hie⟩ : ∃ ie, inE (s, V) = ie := ⟨_, rfl⟩
  have HIE := Lib.hid hie
  obtain ⟨ce, hce⟩ : ∃ ce, rsE (s, V) most = ce := ⟨_, rfl⟩
  have HCE := Lib.hid (show ce = if ie ≠ 0 then ie else (prodR (rsL (s, V)) most).2 by rw [← hce, ← hie]; rfl)
  obtain ⟨WH, hWH⟩ : ∃ WH, V.sq.whs = WH := ⟨_, rfl⟩
  have HWH := Lib.hid hWH
  have hrl : rsL (s, V) = WH.map lnF := by rw [← hWH]; rfl
  obtain ⟨VA, hVA⟩ : ∃ VA, rsV (s, V) (s2, V2) most = VA := ⟨_, rfl⟩
  have HRV := Lib.hid (show VA = V2.sel (againL (max V2.len 1) (prodR (WH.map lnF) most).1.toNat) by rw [← hVA, ← hrl]; rfl)
  rw [hrl] at HCE
  rw [hce, hrl, hVA]
  have HML := Lib.hid (show WH.length ≤ 1048576 by rw [← hWH]; exact whs_len20 HOK.out HNM.out)
  have hfold := hW1.symm
  clear h h2 hW1 hok hn hT g1 g2 g3 g4 g5 hne hne2 hie hce hm hrl hWH hVA
  have cHA0 := HA.out.2.1
  have cHA1 := HA.out.2.2.1
  have cHA20 := HA2.out.2.1
  have cHA21 := HA2.out.2.2.1
  have cHR0 := HR.out.2.1
  have cHR1 := HR.out.2.2.1
  go_enter Tryz.func18, Tryz.ntmps18
  go_wp2_with fail
  clear hfold
  refine (rsints_calls _ _ (s, V) _ HX.out HOK.out HNM.out HT.out).mono ?_
  rintro e W11 ⟨v, rfl, hv1, hv2, hB⟩
  clear cHA0 cHA1 cHA20 cHA21 cHR0 cHR1
  replace HA := Lib.hid (HA.out.below hB)
  replace HA2 := Lib.hid (HA2.out.below hB)
  replace HR := Lib.hid (HR.out.below hB)
  replace HB := Lib.hid (HB.out.trans (hB.mono HB.out.size))
  replace HW1 := Lib.hid (HW1.out.trans (hB.mono HW1.out.size))
  replace HX := Lib.hid (HX.out.grow hB)
  replace HX2 := Lib.hid (HX2.out.grow hB)
  replace HV2 := Lib.hid (HV2.out.grow hB)
  replace HT := Lib.hid (fun j hj => keep_below hB _ _ (HT.out j hj))
  rw [HIE.out] at hv1 hv2 ⊢
  have HV1 := Lib.hid hv1
  have HVZ := Lib.hid hv2
  clear hv1 hv2
  clear hB
  by_cases hi0 : ie = 0
  rotate_left
  · have hb1 : (ie != 0) = true := by simpa using hi0
    obtain rfl := HVZ.out hi0
    have HC9 := Lib.hid (show ce = ie by rw [HCE.out, if_pos hi0])
    have HC0 := Lib.hid (show ce ≠ 0 by rw [HC9.out]; exact hi0)
    clear hi0
    have cHA0 := HA.out.2.1
    have cHA1 := HA.out.2.2.1
    have cHA20 := HA2.out.2.1
    have cHA21 := HA2.out.2.2.1
    have cHR0 := HR.out.2.1
    have cHR1 := HR.out.2.2.1
    have zHR0 := HR.out.2.2.2 0
    have zHR1 := HR.out.2.2.2 1
    go_wp2_with fail
    refine bodyPost_ret (v := .tuple #[.agg #[.slice none 0 0, .nilIface], .int .i64 ie]) (by simp [results, Tryz.results18, go_sem, World.cell?_setCell_same, cHR0, cHR1]) rfl ⟨none, (0, 0), .nilIface, by rw [HC9.out], fun h => absurd h HC0.out, fun _ => ⟨rfl, rfl, rfl⟩, (HB.out.setCell (by show w.heap.size ≤ w.heap.size + 2; omega) _).setCell (by show w.heap.size ≤ w.heap.size + 2; omega) _⟩
  have HL := Lib.hid (HV1.out hi0)
  have hc := HCE.out
  rw [if_neg (by simpa using hi0)] at hc
  replace HCE := Lib.hid hc
  subst hi0
  clear hc HV1 HVZ
  rw [show (s, V).2.sq.whs = WH from HWH.out] at HL
  obtain ⟨m, hm⟩ : ∃ m, WH.length = m := ⟨_, rfl⟩
  have HM := Lib.hid hm
  rw [hm] at HL
  clear hm
  obtain ⟨vo, vc, rfl, _⟩ := HL.out.opened
  obtain ⟨xs, hxs⟩ : ∃ xs : List Value, xs = ints (WH.map lnF) := ⟨_, rfl⟩
  have hxl : xs.length = m := by rw [hxs, ints_len, List.length_map, HM.out]
  have hget : ∀ j (hj : j < xs.length) (x : Int), WH[j]? = some x → xs[j]'hj = .int .i64 (lnF x) := by
    intro j hj x hx
    have : xs[j]? = some (.int .i64 (lnF x)) := by rw [hxs]; unfold ints; rw [List.getElem?_map, List.getElem?_map, hx]; rfl
    rw [List.getElem?_eq_getElem hj] at this
    exact Option.some.inj this
  have HX9 := Lib.hid hget
  have HXS := Lib.hid hxs
  have HXL := Lib.hid hxl
  have hm9 : m ≤ 1048576 := by rw [← HM.out]; exact HML.out
  have hmk := run_mkI3 m (by omega) W11
  clear hxs hget hxl
  obtain ⟨W0, hW0⟩ : ∃ W0, W0 = W11.alloc (.cells (zerosV (.int .i64 0) m) 3) := ⟨_, rfl⟩
  have HO0 : Hid (W0.ownsRow W11.heap.size 3 1 (.slice (some ⟨W11.heap.size, 0, none⟩) m m) m (List.replicate m (.int .i64 0))) := Lib.hid (by rw [hW0]; exact own_make1 _ _ _ (by omega) _ _ (Nat.le_refl _))
  have HW := Lib.hid (show Below W11.heap.size W11 W0 by rw [hW0]; exact below_new _ _)
  have hfold0 := hW0.symm
  clear hW0
  have hi0e : True := trivial
  have cHA0 := HA.out.2.1
  have cHA1 := HA.out.2.2.1
  have cHA20 := HA2.out.2.1
  have cHA21 := HA2.out.2.2.1
  have cHR0 := HR.out.2.1
  have cHR1 := HR.out.2.2.1
  go_wp2_with fail
  clear hfold0 hmk hi0e
  clear cHA0 cHA1 cHA20 cHA21 cHR0 cHR1
  obtain ⟨G, hG⟩ : ∃ G, W11.heap.size = G := ⟨_, rfl⟩
  have HGE := Lib.hid hG
  rw [hG] at HO0 HW ⊢
  clear hG
  go_loopw [28] (fun i wr => ∃ k : Nat, k ≤ m ∧ i = .int .i64 k ∧ wr.ownsRow G 3 1 (.slice (some ⟨G, 0, none⟩) m m) m (fillTo xs (.int .i64 0) k) ∧ W0.grownBy wr (some G)) (fun i _ => m - (intOf i).toNat)
  case atStart => exact ⟨0, by omega, rfl, by rw [fillTo_zero, HXL.out]; exact HO0.out, grown_refl _ _⟩
  case round =>
    obtain ⟨k, hk, rfl, hown, hgr⟩ := hrel
    have HO := Lib.hid hown
    have HG := Lib.hid hgr
    have hBk : Below G W11 wr := HW.out.grown hgr (by rw [← HGE.out]; exact HW.out.size) (fun j hj => by cases hj; omega)
    rw [← HGE.out] at hBk
    have HBk := Lib.hid hBk
    clear hBk
    by_cases hlt : k < m
    · have hcw := owns_cell HO.out k (by rw [fillTo_len _ _ _ (by rw [HXL.out]; exact hk), HXL.out]; exact hlt)
      have hfr := World.ownsRow.frozenAt HO.out k
      obtain ⟨old, hold⟩ : ∃ old, (fillTo xs (.int .i64 0) k)[k]'(by rw [fillTo_len _ _ _ (by rw [HXL.out]; exact hk), HXL.out]; exact hlt) = old := ⟨_, rfl⟩
      rw [hold] at hcw
      clear hown hgr hold
      obtain ⟨b, off, cap1, x, e, hx, c0⟩ := Slc.at_map (Value.int .i64) (l := WH) (by rw [HM.out]; exact HL.out.below HBk.out) k (by rw [HM.out]; exact hlt)
      rw [HM.out] at e
      cases e
      have HXK := Lib.hid (HX9.out k (by rw [HXL.out]; exact hlt) x hx)
      clear hx
      go_wp2_with fail
      refine (rslen_calls x _).mono ?_
      rintro e w9 ⟨rfl, rfl⟩
      go_wp2
      go_roundw
      case rel =>
        refine ⟨k + 1, by omega, by go_num, ?_, grown_trans HG.out (grown_setCell _ ⟨G, k, none⟩ _)⟩
        have := (World.ownsRow.stored HO.out k (.int .i64 (lnF x))).1
        rw [← HXK.out, fillTo_set] at this
        rw [← HXK.out]
        exact this
      case measure => simp [intOf]; omega
    · have hkl : k = m := by omega
      have HK := Lib.hid hkl
      clear hown hgr
      have HZ := Lib.hid (show Slc wr (fun _ => True) (.slice (some ⟨G, 0, none⟩) m m) (WH.map lnF).length (ints (WH.map lnF)) by
        have h1 := (Slc.owned HO.out).any
        rw [HK.out, ← HXL.out, fillTo_all, HXL.out, HXS.out] at h1
        rw [List.length_map, HM.out]
        exact h1)
      have HZL := Lib.hid (show (WH.map lnF).length ≤ 1048576 by rw [List.length_map, HM.out]; omega)
      have hB := HBk.out
      clear hkl
      replace HA := Lib.hid (HA.out.below hB)
      replace HA2 := Lib.hid (HA2.out.below hB)
      replace HR := Lib.hid (HR.out.below hB)
      replace HB := Lib.hid (HB.out.trans (hB.mono HB.out.size))
      replace HW1 := Lib.hid (HW1.out.trans (hB.mono HW1.out.size))
      replace HX := Lib.hid (HX.out.grow hB)
      replace HX2 := Lib.hid (HX2.out.grow hB)
      replace HV2 := Lib.hid (HV2.out.grow hB)
      replace HT := Lib.hid (fun j hj => keep_below hB _ _ (HT.out j hj))
      replace HL := Lib.hid (HL.out.below hB)
      clear hB
      obtain ⟨pn, hpn⟩ : ∃ pn, (prodR (WH.map lnF) most).1 = pn := ⟨_, rfl⟩
      obtain ⟨pe, hpe⟩ : ∃ pe, (prodR (WH.map lnF) most).2 = pe := ⟨_, rfl⟩
      have HPN := Lib.hid hpn
      have HPE := Lib.hid hpe
      have HPR := Lib.hid (show prodR (WH.map lnF) most = (pn, pe) by rw [← hpn, ← hpe])
      rw [hpe] at HCE
      rw [hpn] at HRV
      clear hpn hpe
      have cHA0 := HA.out.2.1
      have cHA1 := HA.out.2.2.1
      have cHA20 := HA2.out.2.1
      have cHA21 := HA2.out.2.2.1
      have cHR0 := HR.out.2.1
      have cHR1 := HR.out.2.2.1
      go_wp2_with fail
      refine (sproduct_calls _ (WH.map lnF) most _ HZ.out (by have := HZL.out; omega)).mono ?_
      rintro e W12 ⟨rfl, hB⟩
      clear cHA0 cHA1 cHA20 cHA21 cHR0 cHR1
      replace HA := Lib.hid (HA.out.below hB)
      replace HA2 := Lib.hid (HA2.out.below hB)
      replace HR := Lib.hid (HR.out.below hB)
      replace HB := Lib.hid (HB.out.trans (hB.mono HB.out.size))
      replace HW1 := Lib.hid (HW1.out.trans (hB.mono HW1.out.size))
      replace HX := Lib.hid (HX.out.grow hB)
      replace HX2 := Lib.hid (HX2.out.grow hB)
      replace HV2 := Lib.hid (HV2.out.grow hB)
      replace HT := Lib.hid (fun j hj => keep_below hB _ _ (HT.out j hj))
      replace HL := Lib.hid (HL.out.below hB)
      replace HZ := Lib.hid (HZ.out.below hB)
      rw [HPR.out]
      clear hB
      by_cases hi0 : pe = 0
      rotate_left
      · have hb1 : (pe != 0) = true := by simpa using hi0
        have HC9 := Lib.hid (show ce = pe from HCE.out)
        have HC0 := Lib.hid (show ce ≠ 0 by rw [HC9.out]; exact hi0)
        clear hi0
        have cHA0 := HA.out.2.1
        have cHA1 := HA.out.2.2.1
        have cHA20 := HA2.out.2.1
        have cHA21 := HA2.out.2.2.1
        have cHR0 := HR.out.2.1
        have cHR1 := HR.out.2.2.1
        have zHR0 := HR.out.2.2.2 0
        have zHR1 := HR.out.2.2.2 1
        go_wp2_with fail
        refine bodyPost_ret (v := .tuple #[.agg #[.slice none 0 0, .nilIface], .int .i64 pe]) (by simp [results, Tryz.results18, go_sem, World.cell?_setCell_same, cHR0, cHR1]) rfl ⟨none, (0, 0), .nilIface, by rw [HC9.out], fun h => absurd h HC0.out, fun _ => ⟨rfl, rfl, rfl⟩, (HB.out.setCell (by show w.heap.size ≤ w.heap.size + 2; omega) _).setCell (by show w.heap.size ≤ w.heap.size + 2; omega) _⟩
      have HC9 := Lib.hid (show ce = 0 by rw [HCE.out]; exact hi0)
      subst hi0
      obtain ⟨hp1, hp2, hp3⟩ := prodR_fits20 HPR.out HMO.out
      have HP1 := Lib.hid hp1
      have HP3 := Lib.hid hp3
      obtain ⟨cn, rfl⟩ := Int.eq_ofNat_of_zero_le hp1
      have hcn : cn ≤ 1048576 := by omega
      have HCN := Lib.hid hcn
      have hcl : (min (max (cn : Int) 0) 1048576).toNat = cn := by omega
      have HCL := Lib.hid hcl
      rw [Int.toNat_natCast] at HRV
      clear hp1 hp2 hp3 hcl
      have cHA0 := HA.out.2.1
      have cHA1 := HA.out.2.2.1
      have cHA20 := HA2.out.2.1
      have cHA21 := HA2.out.2.2.1
      have cHR0 := HR.out.2.1
      have cHR1 := HR.out.2.2.1
      have zHR0 := HR.out.2.2.2 0
      have zHR1 := HR.out.2.2.2 1
      go_wp2_with fail
      have HBS := Lib.hid HW1.out.size
      refine (again_calls _ V2 (cn : Int) _ HV2.out HOK2.out HNM2.out HBX2.out HT.out (by have := HCN.out; omega)).mono ?_
      rintro e W13 ⟨ua, rfl, hr, hB⟩
      clear cHA0 cHA1 cHA20 cHA21 cHR0 cHR1 zHR0 zHR1
      replace HA := Lib.hid (HA.out.below hB)
      replace HA2 := Lib.hid (HA2.out.below hB)
      replace HR := Lib.hid (HR.out.below hB)
      replace HB := Lib.hid (HB.out.trans (hB.mono HB.out.size))
      replace HW1 := Lib.hid (HW1.out.trans (hB.mono HW1.out.size))
      replace HX := Lib.hid (HX.out.grow hB)
      replace HX2 := Lib.hid (HX2.out.grow hB)
      replace HV2 := Lib.hid (HV2.out.grow hB)
      replace HT := Lib.hid (fun j hj => keep_below hB _ _ (HT.out j hj))
      replace HL := Lib.hid (HL.out.below hB)
      replace HZ := Lib.hid (HZ.out.below hB)
      rw [HCL.out, ← HRV.out] at hr
      have HVA := Lib.hid (show IsV W13 (fun b => (ok2 b ∧ b < w.heap.size) ∨ w.heap.size + 3 ≤ b) ua VA from hr.wide (fun b _ h => by have := HBS.out; have := HWW.out; rcases h with ⟨h, _⟩ | h; exact Or.inl h; exact Or.inr (by omega)))
      have hsa := hr.store
      clear hr
      clear hB
      have hgv : gV 39 VA := by
        rw [HRV.out]
        exact HSEL.out _ (by rw [againL_len20]; exact HCN.out)
      have HGV := Lib.hid hgv
      have HVL := Lib.hid (show VA.len = cn by rw [HRV.out, VV.sel_len _ _ (VV.nums_num HOK2.out HNM2.out) (by rw [againL_len20]; exact HCN.out), againL_len20])
      clear hgv
      go_wp2_with fail
      have HBS2 := Lib.hid HW1.out.size
      refine (vnew_ok _ ua (WH.map lnF) VA _ HZ.out (by have := HZL.out; omega) HVA.out HGV.out.1 HGV.out.2.1 HT.out).mono ?_
      rintro e W14 ⟨ns, nu, rfl, hn1, hn2, hB⟩
      replace HA := Lib.hid (HA.out.below hB)
      replace HA2 := Lib.hid (HA2.out.below hB)
      replace HR := Lib.hid (HR.out.below hB)
      replace HB := Lib.hid (HB.out.trans (hB.mono HB.out.size))
      replace HW1 := Lib.hid (HW1.out.trans (hB.mono HW1.out.size))
      replace HX := Lib.hid (HX.out.grow hB)
      replace HX2 := Lib.hid (HX2.out.grow hB)
      replace HV2 := Lib.hid (HV2.out.grow hB)
      replace HT := Lib.hid (fun j hj => keep_below hB _ _ (HT.out j hj))
      replace HL := Lib.hid (HL.out.below hB)
      replace HZ := Lib.hid (HZ.out.below hB)
      replace HVA := Lib.hid (HVA.out.grow hB)
      have e0 : newE (WH.map lnF) VA = 0 := newE_fit (by rw [HVL.out]; exact HP3.out) (VV.kind_pos HGV.out.2.2.1)
      rw [tight_sq HGV.out.2.2.1] at hn1
      rw [e0]
      have hra := hn1 e0
      obtain ⟨no, nc, rfl, _⟩ := hra.1.opened
      have HY := Lib.hid (show IsArr W14 (fun b => (ok2 b ∧ b < w.heap.size) ∨ w.heap.size + 3 ≤ b) (.slice no (WH.map lnF).length nc) nu (WH.map lnF, VA) from hra.wide (fun b h1 h2 => by have := HBS2.out; have := HWW.out; rcases h2 with ⟨h2, _⟩ | h2; exact h2; exact Or.inr (by omega)))
      have hsn := hra.2.store
      clear hn1 hn2 e0 hra
      clear hB
      obtain ⟨zl, hzl⟩ : ∃ zl, (WH.map lnF).length = zl := ⟨_, rfl⟩
      rw [hzl] at HY ⊢
      clear hzl
      have cHA0 := HA.out.2.1
      have cHA1 := HA.out.2.2.1
      have cHA20 := HA2.out.2.1
      have cHA21 := HA2.out.2.2.1
      have cHR0 := HR.out.2.1
      have cHR1 := HR.out.2.2.1
      have zHR0 := HR.out.2.2.2 0
      have zHR1 := HR.out.2.2.2 1
      go_wp2_with fail
      refine bodyPost_ret (v := .tuple #[.agg #[.slice no zl nc, nu], .int .i64 0]) (by simp [results, Tryz.results18, go_sem, World.cell?_setCell_same, cHR0, cHR1]) rfl ⟨no, (zl, nc), nu, by rw [HC9.out], fun _ => ?_, fun h => absurd HC9.out h, (HB.out.setCell (by show w.heap.size ≤ w.heap.size + 2; omega) _).setCell (by show w.heap.size ≤ w.heap.size + 2; omega) _⟩
      exact IsArr.keep (ok := fun b => (ok2 b ∧ b < w.heap.size) ∨ w.heap.size + 3 ≤ b) ((Kept.setCell _ _ _ (by rintro (⟨_, h⟩ | h) <;> simp at h <;> omega)).trans (Kept.setCell _ _ _ (by rintro (⟨_, h⟩ | h) <;> simp at h <;> omega))) (fun b _ h => h.imp id (fun h => by omega)) HY.out
end Go.Proofs.YtbfcdpabjailcaaGreatDoor

/- Layer 20, walked: within, taken. Written by tools/gen_rse.py. -/
namespace Go.Proofs.YtbfcdpabjailcaaGreatDoor
set_option maxRecDepth 100000
open Go.RowKit Fl
set_option linter.unusedVariables false

/-- What within tells of two places. -/
def wthF (n : Int) (o i : Int) : Int := if 0 ≤ o ∧ 0 ≤ i then o * n + i else -1
def wthL (at_ : List Int) (n : Int) (pl : List Int) : List Int := at_.flatMap fun o => pl.map (wthF n o)
theorem wthL_len (at_ : List Int) (n : Int) (pl : List Int) : (wthL at_ n pl).length = at_.length * pl.length := by
  unfold wthL
  induction at_ with
  | nil => simp
  | cons a l ih => rw [List.flatMap_cons, List.length_append, ih, List.length_map, List.length_cons, Nat.add_mul]; omega
theorem wthL_succ {at_ : List Int} {k : Nat} {a : Int} (h : at_[k]? = some a) (n : Int) (pl : List Int) : wthL (at_.take (k + 1)) n pl = wthL (at_.take k) n pl ++ pl.map (wthF n a) := by
  unfold wthL; rw [ptake h, List.flatMap_append]; simp
theorem info_int20 : ∃ i0, Tryz.prog.info? 3 = some i0 ∧ i0.zero = some (.int .i64 0) ∧ i0.size = 1 ∧ i0.bytes = 8 := info_parts info_int3
theorem run_mkI0 (m : Nat) (hm : m ≤ 2000000) (w : World) : ∃ cur : Array Value, cur.size = m ∧ (Instr.makeSlice 22 (.int .i64 0) (.int .i64 (m : Int))).run Tryz.prog w = .ok (.slice (some ⟨w.heap.size, 0, none⟩) 0 m) (w.alloc (.cells cur 3)) := by
  obtain ⟨i0, hi, hz0, hz1, hz2⟩ := info_int20
  have hr := run_make (P := Tryz.prog) w 22 3 i0 _ Tryz.underlying22 hi hz0 .i64 .i64 0 m (by omega) (by omega) (by rw [hz2]; omega) (by omega)
  rw [hz1] at hr
  exact ⟨_, by rw [size_madeCells]; simp, hr⟩
theorem ints_app20 (a b : List Int) : ints (a ++ b) = ints a ++ ints b := by unfold ints; rw [List.map_append]

set_option maxHeartbeats 8000000 in
theorem rswithin_calls {ok ok2 : Nat → Prop} (v v2 : Value) (at_ pl : List Int) (n : Int) (w : World) (hv : Slc w ok v at_.length (ints at_)) (hv2 : Slc w ok2 v2 pl.length (ints pl)) (hm : at_.length * pl.length ≤ 1048576) (h1 : at_.length ≤ 1048576) (h2 : pl.length ≤ 1048576) (hn0 : 0 ≤ n) (hn : n ≤ 1048576)
    (ha : ∀ x ∈ at_, -1 ≤ x ∧ x ≤ 1099511627776) (hp : ∀ x ∈ pl, -1 ≤ x ∧ x ≤ 1048576) :
    Calls Tryz.prog 62 #[v, .int .i64 n, v2] w fun e w' => ∃ v', e = .returned v' ∧ Slc w' (fun b => w.heap.size ≤ b) v' (wthL at_ n pl).length (ints (wthL at_ n pl)) ∧ Below w.heap.size w w' := by
  obtain ⟨ao, ac, rfl, _⟩ := hv.opened
  obtain ⟨bo, bc, rfl, _⟩ := hv2.opened
  obtain ⟨p, hpe⟩ : ∃ p, at_.length = p := ⟨_, rfl⟩
  obtain ⟨q, hqe⟩ : ∃ q, pl.length = q := ⟨_, rfl⟩
  rw [hpe] at hv hm h1 ⊢
  rw [hqe] at hv2 hm h2 ⊢
  have HP := Lib.hid hpe
  have HQ := Lib.hid hqe
  have HA := Lib.hid ha
  have HPL := Lib.hid hp
  have HV := Lib.hid hv
  have HV2 := Lib.hid hv2
  obtain ⟨C, hC⟩ : ∃ C, p * q = C := ⟨_, rfl⟩
  have HC := Lib.hid hC
  rw [hC] at hm
  have HCM := Lib.hid hm
  have hCw : IntKind.i64.wrap ((p : Int) * (q : Int)) = (C : Int) := by rw [← Int.natCast_mul, hC]; exact IntWalk.i64_in _ (by omega)
  obtain ⟨cur, hcs, hmk⟩ := run_mkI0 C (by omega) w
  obtain ⟨W0, hW0⟩ : ∃ W0, W0 = w.alloc (.cells cur 3) := ⟨_, rfl⟩
  have HO0 := Lib.hid (show W0.ownsRow w.heap.size 3 1 (.slice (some ⟨w.heap.size, 0, none⟩) 0 C) 0 [] by rw [hW0]; exact World.ownsRow_made w _ C (Nat.le_refl _) (by unfold maxLen; omega) (by omega))
  have HW := Lib.hid (show Below w.heap.size w W0 by rw [hW0]; exact below_new _ _)
  obtain ⟨F, hF⟩ : ∃ F : Nat → List Int, ∀ k, F k = wthL (at_.take k) n pl := ⟨_, fun _ => rfl⟩
  have HF0 := Lib.hid (show F 0 = [] by rw [hF]; rfl)
  have HFS := Lib.hid (show ∀ k a, at_[k]? = some a → F (k + 1) = F k ++ pl.map (wthF n a) from fun k a h => by rw [hF, hF, wthL_succ h])
  have HFN := Lib.hid (show F p = wthL at_ n pl by rw [hF, ← hpe, List.take_length])
  obtain ⟨G, hG⟩ : ∃ G, w.heap.size = G := ⟨_, rfl⟩
  have HG := Lib.hid hG
  rw [hG] at HO0 HW
  have hfold0 := hW0.symm
  clear hv hv2 ha hp hpe hqe hC hm hcs hW0 hF hG
  go_enter Tryz.func62, Tryz.ntmps62
  go_wp2_with fail
  clear hfold0 hmk hCw
  rw [HG.out]
  go_loopw [7, 21] (fun ov iv wr => ∃ k : Nat, k ≤ p ∧ iv = .int .i64 k ∧ wr.ownsRow G 3 1 ov (k * q) (ints (F k)) ∧ Below G w wr) (fun _ iv _ => p - (intOf iv).toNat)
  case atStart => exact ⟨0, by omega, rfl, by rw [HF0.out, Nat.zero_mul]; exact HO0.out, HW.out⟩
  case round =>
    obtain ⟨k, hk, rfl, hown, hB⟩ := hrel
    obtain ⟨vo, vc, rfl⟩ := owns_form hown
    have HO := Lib.hid hown
    have HBk := Lib.hid hB
    clear hown hB
    by_cases hlt : k < p
    · obtain ⟨b, off, cap1, x, e, hx, c0⟩ := Slc.at_map (Value.int .i64) (l := at_) (by rw [HP.out]; exact HV.out.below (by rw [HG.out]; exact HBk.out)) k (by rw [HP.out]; exact hlt)
      rw [HP.out] at e
      cases e
      have HXB := Lib.hid (HA.out x (by obtain ⟨h1, h2⟩ := List.getElem?_eq_some_iff.1 hx; rw [← h2]; exact List.getElem_mem h1))
      obtain ⟨F2, hF2⟩ : ∃ F2 : Nat → List Int, ∀ i, F2 i = F k ++ (pl.take i).map (wthF n x) := ⟨_, fun _ => rfl⟩
      have H20 := Lib.hid (show F2 0 = F k by rw [hF2]; simp)
      have H2S := Lib.hid (show ∀ i y, pl[i]? = some y → F2 (i + 1) = F2 i ++ [wthF n x y] from fun i y h => by rw [hF2, hF2, ptake h]; simp)
      have H2N := Lib.hid (show F2 q = F (k + 1) by rw [hF2, HFS.out k x hx, ← HQ.out, List.take_length])
      obtain ⟨KQ, hKQ⟩ : ∃ KQ, k * q = KQ := ⟨_, rfl⟩
      have HKQ := Lib.hid hKQ
      have hle : KQ + q ≤ C := by
        have h9 : (k + 1) * q ≤ p * q := Nat.mul_le_mul_right _ hlt
        rw [Nat.add_mul, Nat.one_mul, hKQ, HC.out] at h9
        exact h9
      have HLE := Lib.hid hle
      rw [hKQ] at HO ⊢
      clear hx hF2 hKQ hle
      go_wp2_with fail
      clear c0
      go_loopw [7, 27] (fun ov iv wr => ∃ i : Nat, i ≤ q ∧ iv = .int .i64 i ∧ wr.ownsRow G 3 1 ov (KQ + i) (ints (F2 i)) ∧ Below G w wr) (fun _ iv _ => q - (intOf iv).toNat)
      case atStart => exact ⟨0, by omega, rfl, by rw [H20.out]; exact HO.out, HBk.out⟩
      case round =>
        clear HO HBk
        obtain ⟨i, hi, rfl, hown, hB⟩ := hrel
        obtain ⟨vo, vc, rfl⟩ := owns_form hown
        have HO := Lib.hid hown
        have HBk := Lib.hid hB
        clear hown hB
        by_cases hil : i < q
        · obtain ⟨b2, off2, cap2, y, e, hy, c1⟩ := Slc.at_map (Value.int .i64) (l := pl) (by rw [HQ.out]; exact HV2.out.below (by rw [HG.out]; exact HBk.out)) i (by rw [HQ.out]; exact hil)
          rw [HQ.out] at e
          cases e
          have HYB := Lib.hid (HPL.out y (by obtain ⟨h1, h2⟩ := List.getElem?_eq_some_iff.1 hy; rw [← h2]; exact List.getElem_mem h1))
          have HY := Lib.hid (H2S.out i y hy)
          have HIL := Lib.hid hil
          clear hy
          have HSG := Lib.hid (show G ≤ wr.heap.size by rw [← HG.out]; exact HBk.out.size)
          have hxb := HXB.out
          have hyb := HYB.out
          by_cases hx0 : 0 ≤ x
          · by_cases hy0 : 0 ≤ y
            · obtain ⟨z, hz⟩ : ∃ z, x * n + y = z := ⟨_, rfl⟩
              have hzz : wthF n x y = z := by unfold wthF; rw [if_pos ⟨hx0, hy0⟩, hz]
              have HZZ := Lib.hid hzz
              obtain ⟨P, hP⟩ : ∃ P, x * n = P := ⟨_, rfl⟩
              have hPb : 0 ≤ P ∧ P ≤ 1152921504606846976 := by
                rw [← hP]
                refine ⟨Int.mul_nonneg hx0 hn0, ?_⟩
                have h7 : x * n ≤ 1099511627776 * 1048576 := Int.mul_le_mul (by omega) hn hn0 (by omega)
                omega
              rw [hP] at hz
              have hPw : IntKind.i64.wrap (x * n) = P := by rw [hP]; exact IntWalk.i64_in _ (by omega)
              obtain ⟨hP0, hP1⟩ := hPb
              clear hzz hP
              obtain ⟨W4, hW4⟩ : ∃ W4, W4 = wr.alloc (.cells #[.int .i64 z] 3) := ⟨_, rfl⟩
              have HB4 := Lib.hid (show Below wr.heap.size wr W4 by rw [hW4]; exact below_new _ _)
              have HO4 := Lib.hid (show W4.ownsRow G 3 1 (.slice vo (KQ + i) vc) (KQ + i) (ints (F2 i)) by rw [hW4]; exact HO.out.alloc _)
              have HN4 := Lib.hid (show ∀ j u, ([.int .i64 z] : List Value)[j]? = some u → W4.cell? ((⟨wr.heap.size, 0, none⟩ : Addr).add j) = some u by rw [hW4]; exact cell_one_newp _ _ _)
              have HSZ4 := Lib.hid (show G ≤ W4.heap.size from Nat.le_trans HSG.out HB4.out.size)
              have HM1 := Lib.hid (show KQ + i + 1 ≤ maxLen by unfold maxLen; have := HLE.out; have := HCM.out; omega)
              have HM2 := Lib.hid (show (KQ + i + 1) * 8 ≤ 140737488355328 by have := HLE.out; have := HCM.out; omega)
              have hfold4 := hW4.symm
              clear hW4
              go_wp2_with (at_builtin; refine wpList_append_blk _ rfl _ _ 22 rfl G 3 info_int20.choose _ 1 8 Tryz.underlying22 info_int20.choose_spec.1 info_int20.choose_spec.2.1 info_int20.choose_spec.2.2.1 info_int20.choose_spec.2.2.2 rfl (by decide) _ (KQ + i) (ints (F2 i)) rfl HO4.out ⟨wr.heap.size, 0, none⟩ 1 1 [.int .i64 z] rfl rfl HN4.out (one_intp z) HM1.out HM2.out HSZ4.out ?_)
              intro vv w5 hown hgrow hblk
              obtain ⟨vo1, vc1, rfl⟩ := owns_form hown
              have HO5 := Lib.hid hown
              have HBG5 := Lib.hid ((HBk.out.trans (HB4.out.mono HSG.out)).grown hgrow HSZ4.out (fun j hj => (HO4.out.lt j hj).1))
              clear hown hgrow hblk hfold4 c1
              have hlt9 := HIL.out
              go_wp2
              go_roundw
              case rel =>
                refine ⟨i + 1, by omega, by go_num, ?_, HBG5.out⟩
                rw [HY.out, HZZ.out, ints_app20]; exact HO5.out
              case measure => simp [intOf]; omega
            · have HZZ := Lib.hid (show wthF n x y = -1 by unfold wthF; rw [if_neg (fun h => hy0 h.2)])
              obtain ⟨W4, hW4⟩ : ∃ W4, W4 = wr.alloc (.cells #[.int .i64 (-1)] 3) := ⟨_, rfl⟩
              have HB4 := Lib.hid (show Below wr.heap.size wr W4 by rw [hW4]; exact below_new _ _)
              have HO4 := Lib.hid (show W4.ownsRow G 3 1 (.slice vo (KQ + i) vc) (KQ + i) (ints (F2 i)) by rw [hW4]; exact HO.out.alloc _)
              have HN4 := Lib.hid (show ∀ j u, ([.int .i64 (-1)] : List Value)[j]? = some u → W4.cell? ((⟨wr.heap.size, 0, none⟩ : Addr).add j) = some u by rw [hW4]; exact cell_one_newp _ _ _)
              have HSZ4 := Lib.hid (show G ≤ W4.heap.size from Nat.le_trans HSG.out HB4.out.size)
              have HM1 := Lib.hid (show KQ + i + 1 ≤ maxLen by unfold maxLen; have := HLE.out; have := HCM.out; omega)
              have HM2 := Lib.hid (show (KQ + i + 1) * 8 ≤ 140737488355328 by have := HLE.out; have := HCM.out; omega)
              have hfold4 := hW4.symm
              clear hW4
              go_wp2_with (at_builtin; refine wpList_append_blk _ rfl _ _ 22 rfl G 3 info_int20.choose _ 1 8 Tryz.underlying22 info_int20.choose_spec.1 info_int20.choose_spec.2.1 info_int20.choose_spec.2.2.1 info_int20.choose_spec.2.2.2 rfl (by decide) _ (KQ + i) (ints (F2 i)) rfl HO4.out ⟨wr.heap.size, 0, none⟩ 1 1 [.int .i64 (-1)] rfl rfl HN4.out (one_intp (-1)) HM1.out HM2.out HSZ4.out ?_)
              intro vv w5 hown hgrow hblk
              obtain ⟨vo1, vc1, rfl⟩ := owns_form hown
              have HO5 := Lib.hid hown
              have HBG5 := Lib.hid ((HBk.out.trans (HB4.out.mono HSG.out)).grown hgrow HSZ4.out (fun j hj => (HO4.out.lt j hj).1))
              clear hown hgrow hblk hfold4 c1
              have hlt9 := HIL.out
              go_wp2
              go_roundw
              case rel =>
                refine ⟨i + 1, by omega, by go_num, ?_, HBG5.out⟩
                rw [HY.out, HZZ.out, ints_app20]; exact HO5.out
              case measure => simp [intOf]; omega
          · have HZZ := Lib.hid (show wthF n x y = -1 by unfold wthF; rw [if_neg (fun h => hx0 h.1)])
            obtain ⟨W4, hW4⟩ : ∃ W4, W4 = wr.alloc (.cells #[.int .i64 (-1)] 3) := ⟨_, rfl⟩
            have HB4 := Lib.hid (show Below wr.heap.size wr W4 by rw [hW4]; exact below_new _ _)
            have HO4 := Lib.hid (show W4.ownsRow G 3 1 (.slice vo (KQ + i) vc) (KQ + i) (ints (F2 i)) by rw [hW4]; exact HO.out.alloc _)
            have HN4 := Lib.hid (show ∀ j u, ([.int .i64 (-1)] : List Value)[j]? = some u → W4.cell? ((⟨wr.heap.size, 0, none⟩ : Addr).add j) = some u by rw [hW4]; exact cell_one_newp _ _ _)
            have HSZ4 := Lib.hid (show G ≤ W4.heap.size from Nat.le_trans HSG.out HB4.out.size)
            have HM1 := Lib.hid (show KQ + i + 1 ≤ maxLen by unfold maxLen; have := HLE.out; have := HCM.out; omega)
            have HM2 := Lib.hid (show (KQ + i + 1) * 8 ≤ 140737488355328 by have := HLE.out; have := HCM.out; omega)
            have hfold4 := hW4.symm
            clear hW4
            go_wp2_with (at_builtin; refine wpList_append_blk _ rfl _ _ 22 rfl G 3 info_int20.choose _ 1 8 Tryz.underlying22 info_int20.choose_spec.1 info_int20.choose_spec.2.1 info_int20.choose_spec.2.2.1 info_int20.choose_spec.2.2.2 rfl (by decide) _ (KQ + i) (ints (F2 i)) rfl HO4.out ⟨wr.heap.size, 0, none⟩ 1 1 [.int .i64 (-1)] rfl rfl HN4.out (one_intp (-1)) HM1.out HM2.out HSZ4.out ?_)
            intro vv w5 hown hgrow hblk
            obtain ⟨vo1, vc1, rfl⟩ := owns_form hown
            have HO5 := Lib.hid hown
            have HBG5 := Lib.hid ((HBk.out.trans (HB4.out.mono HSG.out)).grown hgrow HSZ4.out (fun j hj => (HO4.out.lt j hj).1))
            clear hown hgrow hblk hfold4 c1
            have hlt9 := HIL.out
            go_wp2
            go_roundw
            case rel =>
              refine ⟨i + 1, by omega, by go_num, ?_, HBG5.out⟩
              rw [HY.out, HZZ.out, ints_app20]; exact HO5.out
            case measure => simp [intOf]; omega
        · have hkn : q = i := by omega
          subst hkn
          clear hil
          go_wp2
          go_roundw
          case rel =>
            refine ⟨k + 1, by omega, by go_num, ?_, HBk.out⟩
            rw [Nat.add_mul, Nat.one_mul, HKQ.out, ← H2N.out]
            exact HO.out
          case measure => simp [intOf]; omega
    · have hkn : p = k := by omega
      subst hkn
      clear hlt
      go_wp2
      go_ret
      refine ⟨.slice vo (p * q) vc, rfl, ?_, by rw [HG.out]; exact HBk.out⟩
      have h9 := Slc.owned HO.out
      rw [HFN.out] at h9
      rw [wthL_len, HP.out, HQ.out, HG.out]
      exact h9
end Go.Proofs.YtbfcdpabjailcaaGreatDoor

/- Layer 20, walked: slices.Repeat of one int. -/
namespace Go.Proofs.YtbfcdpabjailcaaGreatDoor
set_option maxRecDepth 100000
open Go.RowKit
set_option linter.unusedVariables false

set_option maxHeartbeats 4000000 in
theorem srepeatJ_calls {ok : Nat → Prop} (v : Value) (x : Int) (c : Nat) (w : World) (hv : Slc w ok v 1 [.int .i64 x]) (hc : c ≤ 1048576) :
    Calls Tryz.prog 60 #[v, .int .i64 (c : Int)] w fun e w' => ∃ v', e = .returned v' ∧ Slc w' (fun b => w.heap.size ≤ b) v' c (List.replicate c (.int .i64 x)) ∧ Below w.heap.size w w' := by
  obtain ⟨ao, cap, rfl, h1, h2, h3, h4⟩ := hv.opened
  obtain ⟨b, off, rfl, hok, hx⟩ := h4 0 (by simp)
  simp only [Nat.add_zero, List.getElem_cons_zero] at hx
  have HX := Lib.hid hx
  have HC := Lib.hid hc
  have hmk := run_mkI3 c (by omega) w
  obtain ⟨i0, hi, hz0, hz1, hz2⟩ := info_parts info_int
  have HSZ := Lib.hid (show (Tryz.prog.info? 3).map (·.size) = some 1 by rw [hi]; simp [hz1])
  clear hi hz0 hz1 hz2
  obtain ⟨W0, hW0⟩ : ∃ W0, W0 = w.alloc (.cells (zerosV (.int .i64 0) c) 3) := ⟨_, rfl⟩
  have HB0 := Lib.hid (show Below w.heap.size w W0 by rw [hW0]; exact below_new _ _)
  have HG0 := Lib.hid (show W0.heap[w.heap.size]? = some (.cells (repI x c 0).toArray 3 (0, 0)) by
    have e : zerosV (.int .i64 0) c = (List.replicate c (Value.int .i64 0)).toArray := Array.toList_inj.1 (by rw [zerosV, toList_madeCells_one]; simp)
    rw [hW0, repI_zero, e]
    simp only [World.alloc, Array.getElem?_push_size])
  have HX0 := Lib.hid (keep_below HB0.out _ _ HX.out)
  obtain ⟨k, hk⟩ : ∃ k, Nat.min 1 c = k := ⟨_, rfl⟩
  have hkc : k ≤ c := by rw [← hk]; exact Nat.min_le_right _ _
  have HK1 := Lib.hid (show k ≤ 1 by rw [← hk]; exact Nat.min_le_left _ _)
  have HKC := Lib.hid (show 0 < c → 0 < k by intro h; rw [← hk]; show 0 < min 1 c; omega)
  obtain ⟨cs, hcs⟩ : ∃ cs : List Value, List.replicate k (.int .i64 x) = cs := ⟨_, rfl⟩
  have HCL := Lib.hid (show cs.length = Nat.min 1 c by rw [← hcs, List.length_replicate, hk])
  have HCE := Lib.hid (show cs.length = k by rw [← hcs, List.length_replicate])
  have HCQ := Lib.hid (show ∀ (j : Nat) (u : Value), cs[j]? = some u → W0.cell? ⟨b, off + j, none⟩ = some u by
    intro j u hj
    obtain ⟨h9, h8⟩ := List.getElem?_eq_some_iff.1 hj
    have hj0 : j = 0 := by rw [← hcs, List.length_replicate] at h9; have := HK1.out; omega
    subst hj0
    have : u = .int .i64 x := by rw [← h8]; simp [← hcs]
    rw [this]
    exact HX0.out)
  have HCF := Lib.hid (show 0 + cs.length ≤ (repI x c 0).length by rw [HCE.out, repI_len x c 0 (by omega)]; omega)
  have HC1 := Lib.hid (show ∀ u ∈ cs, u.oneCell' = true by rw [← hcs]; intro u hu; rw [(List.mem_replicate.1 hu).2]; rfl)
  have HSP := Lib.hid (show splice (repI x c 0) 0 cs = repI x c k by rw [← hcs]; have := repI_splice x c 0 k (by omega); rwa [Nat.zero_add] at this)
  clear hv h1 h2 h3 h4 hok hx hcs hk
  have hfold := hW0.symm
  clear hW0
  go_enter Tryz.func60, Tryz.ntmps60
  go_wp2_with (first | ((with_reducible refine (bmul_calls c HC.out _).mono ?_); rintro e w' ⟨rfl, rfl⟩) | ((with_reducible show wpList _ _ _ ({ dst := some 33, op := _, type := _, pos := _, after := _, guard := _ } :: _) _ _); go_must (refine wpList_copy_splice rfl (.tmp 31) (.tmp 32) 22 22 rfl 3 Tryz.underlying22 HSZ.out _ _ c c 1 cap rfl rfl w.heap.size 0 (repI x c 0) 3 HG0.out cs HCL.out (fun _ => ⟨rfl, _, rfl, fun j u hj => add_cell (HCQ.out j u hj)⟩) HCF.out HC1.out w.heap.size w HB0.out (Nat.le_refl _) ?_)))
  intro w2 HG2 hB2
  rw [HCE.out]
  rw [HSP.out] at HG2
  have HB2 := Lib.hid hB2
  clear hB2 hfold hmk
  clear HX0 HCQ HCF HC1 HCL HCE
  go_wp2
  go_loopw [8] (fun nn wr => ∃ n : Nat, n ≤ c ∧ (0 < c → 0 < n) ∧ nn = .int .i64 n ∧ Hid (wr.heap[w.heap.size]? = some (.cells (repI x c n).toArray 3 (0, 0))) ∧ Below w.heap.size w wr) (fun nn _ => c - (intOf nn).toNat)
  case atStart => exact ⟨k, hkc, HKC.out, rfl, HG2, HB2.out⟩
  case round =>
    obtain ⟨n, hn, hpos, rfl, HG, hB⟩ := hrel
    have HB := Lib.hid hB
    have HP := Lib.hid hpos
    clear hB hpos
    by_cases hlt : n < c
    · obtain ⟨q, hq⟩ : ∃ q, Nat.min n (c - n) = q := ⟨_, rfl⟩
      have hn0 : 0 < n := HP.out (by omega)
      have hq0 : 0 < q := by rw [← hq]; show 0 < min n (c - n); omega
      have hqc : n + q ≤ c := by have : q ≤ c - n := by rw [← hq]; exact Nat.min_le_right _ _
                                 omega
      obtain ⟨cs2, hcs⟩ : ∃ cs2 : List Value, List.replicate q (.int .i64 x) = cs2 := ⟨_, rfl⟩
      have HCE := Lib.hid (show cs2.length = q by rw [← hcs, List.length_replicate])
      have HCQ := Lib.hid (show ∀ (j : Nat) (u : Value), cs2[j]? = some u → wr.cell? ⟨w.heap.size, 0 + j, none⟩ = some u by
        intro j u hj
        obtain ⟨h9, h8⟩ := List.getElem?_eq_some_iff.1 hj
        have hjq : j < q := by rw [← hcs, List.length_replicate] at h9; exact h9
        have : u = .int .i64 x := by rw [← h8]; simp [← hcs]
        rw [this, Nat.zero_add]
        exact row_cell HG.out (repI_get x c n (by have : q ≤ n := (by rw [← hq]; exact Nat.min_le_left _ _); omega)))
      have HS0 := Lib.hid (show wr.cell? ⟨w.heap.size, 0, none⟩ = some (.int .i64 x) from row_cell HG.out (repI_get x c n hn0))
      have HC1 := Lib.hid (show ∀ u ∈ cs2, u.oneCell' = true by rw [← hcs]; intro u hu; rw [(List.mem_replicate.1 hu).2]; rfl)
      have HSP := Lib.hid (show splice (repI x c n) n cs2 = repI x c (n + q) by rw [← hcs]; exact repI_splice x c n q hqc)
      have HHQ := Lib.hid hq
      obtain ⟨e, he⟩ : ∃ e, c - n = e := ⟨_, rfl⟩
      have HQE := Lib.hid (show cs2.length = Nat.min n e by rw [HCE.out, ← he, hq])
      have HCF := Lib.hid (show n + cs2.length ≤ (repI x c n).length by rw [HCE.out, repI_len x c n hn]; exact hqc)
      clear hcs hq
      go_wp2_with fail
      --TREE
      have hcn : (c = n) = False := eq_false (by omega)
      have HGO := Lib.hid HG.out
      have HBW := Lib.hid HB.out
      obtain ⟨W11, hWD⟩ : ∃ xw9, wr.drew = xw9 := ⟨_, rfl⟩
      have hB : Below wr.heap.size wr W11 := by rw [← hWD]; exact Below.drewN' (Below.refl _ _) 1
      replace HS0 := Lib.hid (keep_below hB _ _ HS0.out)
      replace HB := Lib.hid (HB.out.trans (hB.mono HB.out.size))
      replace HG := Lib.hid ((hB.block _ (lt_heap HG.out)).trans HG.out)
      replace HCQ := Lib.hid (fun j u hj => keep_below hB _ _ (HCQ.out j u hj))
      clear hB
      refine wp_region_held_drew (S := fun w' => w'.cell? ⟨w.heap.size, 0, none⟩ = some (.int .i64 x)) (by kernel_rfl) (by rw [hWD]; exact HS0.out) (fun hHeld => ?_)
      rw [hWD] at hHeld ⊢
      clear hWD
      refine wpAnyH_take (i := 0) (v := ?_) rfl (by kernel_rfl) (by kernel_rfl) (by kernel_rfl) (fun _ _ _ h => h) (Or.inl ⟨by rfl, ?_⟩) (by assumption) ?_
      rotate_left
      · (intro w hSw; (try dsimp only at hSw); go_simp; try with_reducible rfl)
      simp only [Act.put, List.getElem_toArray, List.getElem_cons_zero, List.setIfInBounds_toArray, List.set_cons_zero, List.set_cons_succ]
      refine wpAnyH_take (i := 1) (v := ?_) rfl (by kernel_rfl) (by kernel_rfl) (by kernel_rfl) (fun _ _ _ h => h) (Or.inl ⟨by rfl, ?_⟩) (by assumption) ?_
      rotate_left
      · (intro w hSw; (try dsimp only at hSw); go_simp; try with_reducible rfl)
      simp only [Act.put, List.getElem_toArray, List.getElem_cons_succ, List.getElem_cons_zero, List.setIfInBounds_toArray, List.set_cons_zero, List.set_cons_succ]
      refine wpAnyH_take (i := 2) (v := ?_) rfl (by kernel_rfl) (by kernel_rfl) (by kernel_rfl) (fun _ _ _ h => h) (Or.inl ⟨by rfl, ?_⟩) (by assumption) ?_
      rotate_left
      · (intro w hSw; (try dsimp only at hSw); go_simp; try with_reducible rfl)
      simp only [Act.put, List.getElem_toArray, List.getElem_cons_succ, List.getElem_cons_zero, List.setIfInBounds_toArray, List.set_cons_zero, List.set_cons_succ]
      refine wpAnyH_take (i := 3) (v := ?_) rfl (by kernel_rfl) (by kernel_rfl) (by kernel_rfl) (fun _ _ _ h => h) (Or.inl ⟨by rfl, ?_⟩) (by assumption) ?_
      rotate_left
      · (intro w hSw; (try dsimp only at hSw); go_simp; try with_reducible rfl)
      simp only [Act.put, List.getElem_toArray, List.getElem_cons_succ, List.getElem_cons_zero, List.setIfInBounds_toArray, List.set_cons_zero, List.set_cons_succ]
      refine wpAnyH_take (i := 4) (v := ?_) rfl (by kernel_rfl) (by kernel_rfl) (by kernel_rfl) (fun _ _ _ h => h) (Or.inl ⟨by rfl, ?_⟩) (by assumption) ?_
      rotate_left
      · (intro w hSw; (try dsimp only at hSw); go_simp; try with_reducible rfl)
      simp only [Act.put, List.getElem_toArray, List.getElem_cons_succ, List.getElem_cons_zero, List.setIfInBounds_toArray, List.set_cons_zero, List.set_cons_succ]
      refine wpAnyH_take (i := 5) (v := ?_) rfl (by kernel_rfl) (by kernel_rfl) (by kernel_rfl) (fun _ _ _ h => h) (Or.inl ⟨by rfl, ?_⟩) (by assumption) ?_
      rotate_left
      · (intro w hSw; (try dsimp only at hSw); go_simp; try with_reducible rfl)
      simp only [Act.put, List.getElem_toArray, List.getElem_cons_succ, List.getElem_cons_zero, List.setIfInBounds_toArray, List.set_cons_zero, List.set_cons_succ]
      refine wpAnyH_take (i := 6) (v := ?_) rfl (by kernel_rfl) (by kernel_rfl) (by kernel_rfl) (fun _ _ _ h => h) (Or.inl ⟨by rfl, ?_⟩) (by assumption) ?_
      rotate_left
      · (intro w hSw; (try dsimp only at hSw); go_simp; try with_reducible rfl)
      simp only [Act.put, List.getElem_toArray, List.getElem_cons_succ, List.getElem_cons_zero, List.setIfInBounds_toArray, List.set_cons_zero, List.set_cons_succ]
      refine wpAnyH_ready (rs := [7]) (by kernel_rfl) (by simp) ?_
      refine AllReadyH.cons (o := _) rfl (fun K hK => ?_) ?_
      · clear hHeld
        refine step_copy_splice rfl (.tmp 41) (.tmp 44) 22 22 rfl 3 Tryz.underlying22 HSZ.out (some ⟨w.heap.size, n, none⟩) (some ⟨w.heap.size, 0, none⟩) e e n c rfl rfl w.heap.size n (repI x c n) 3 HG.out cs2 HQE.out (fun _ => ⟨rfl, _, rfl, fun j u hj => add_cell (HCQ.out j u hj)⟩) HCF.out HC1.out w.heap.size w HB.out (Nat.le_refl _) ?_
        intro w4 HG4 hB4
        rw [HSP.out] at HG4
        rw [HCE.out]
        have HB4 := Lib.hid hB4
        have HS4 := Lib.hid (show w4.cell? ⟨w.heap.size, 0, none⟩ = some (.int .i64 x) from row_cell HG4.out (repI_get x c (n + q) (by omega)))
        clear hB4
        refine hK.out _ _ ?_ (fun hHeld => ?_)
        · exact HS4.out
        clear hK K
        refine wpAnyH_take (i := 8) (v := ?_) rfl (by kernel_rfl) (by kernel_rfl) (by kernel_rfl) (fun _ _ _ h => h) (Or.inl ⟨by rfl, ?_⟩) (by assumption) ?_
        rotate_left
        · (intro w hSw; (try dsimp only at hSw); go_simp; try with_reducible rfl)
        simp only [Act.put, List.getElem_toArray, List.getElem_cons_succ, List.getElem_cons_zero, List.setIfInBounds_toArray, List.set_cons_zero, List.set_cons_succ]
        refine wpAnyH_take (i := 9) (v := ?_) rfl (by kernel_rfl) (by kernel_rfl) (by kernel_rfl) (fun _ _ _ h => h) (Or.inl ⟨by rfl, ?_⟩) (by assumption) ?_
        rotate_left
        · (intro w hSw; (try dsimp only at hSw); go_simp; try with_reducible rfl)
        simp only [Act.put, List.getElem_toArray, List.getElem_cons_succ, List.getElem_cons_zero, List.setIfInBounds_toArray, List.set_cons_zero, List.set_cons_succ]
        refine wpAnyH_done (by kernel_rfl) ?_ _
        clear hHeld
        have hw : IntKind.i64.wrap ((n : Int) + (q : Int)) = ((n + q : Nat) : Int) := by rw [IntWalk.i64_in _ (by omega)]; omega
        go_wp2
        go_roundw
        case rel => exact ⟨n + q, hqc, fun _ => by omega, congrArg (Value.int .i64) (by rw [IntWalk.i64_in _ (by omega)]; omega), HG4, HB4.out⟩
        case measure => simp [intOf]; omega
      exact AllReadyH.nil
      --END
    · have hnc : n = c := by omega
      have HL := Lib.hid (show Slc wr (fun b => w.heap.size ≤ b) (.slice (some ⟨w.heap.size, 0, none⟩) c c) c (List.replicate c (.int .i64 x)) by
        rw [hnc, repI_full] at HG
        refine ⟨⟨by simp, _, _, rfl, fun i hi => ⟨_, _, rfl, Nat.le_refl _, ?_⟩⟩, _, _, rfl, Nat.le_refl _, by have := HC.out; unfold maxLen; omega⟩
        rw [Nat.zero_add]
        exact row_cell HG.out (List.getElem?_eq_getElem hi))
      clear hnc
      go_wp2
      go_ret
      exact ⟨_, rfl, HL.out, HB.out⟩
end Go.Proofs.YtbfcdpabjailcaaGreatDoor

/- Layer 20, walked: taken, along, Take. Written by tools/gen_rsf.py. -/
namespace Go.Proofs.YtbfcdpabjailcaaGreatDoor
set_option maxRecDepth 100000
open Go.RowKit Fl
set_option linter.unusedVariables false

/-- How many are taken along an axis. -/
def tkN (m : Int) : Int := lnF (if -m > m then -m else m)
/-- The shape of what is taken. -/
def tkS (cs s : List Int) : List Int := cs.map tkN ++ s.drop cs.length
def tkM (cs s : List Int) (k : Nat) : Int := if k < cs.length then cs.getD k 0 else s.getD k 0
def tkP (cs s : List Int) (k : Nat) : List Int := takL (s.getD k 0).toNat (tkM cs s k)
/-- The places that are taken along the first axes. -/
def tkA (cs s : List Int) : Nat → List Int
  | 0 => [0]
  | k + 1 => wthL (tkA cs s k) (s.getD k 0) (tkP cs s k)
theorem tkS_zero (cs s : List Int) : tkS (cs.take 0) s = s := by unfold tkS; simp
theorem tkS_len {cs s : List Int} (h : cs.length ≤ s.length) : (tkS cs s).length = s.length := by unfold tkS; simp; omega
theorem tkS_succ {cs s : List Int} {k : Nat} {x : Int} (h : cs[k]? = some x) (hl : cs.length ≤ s.length) : tkS (cs.take (k + 1)) s = (tkS (cs.take k) s).set k (tkN x) := by
  obtain ⟨hk, e⟩ := List.getElem?_eq_some_iff.1 h
  unfold tkS
  have e1 : (cs.take k).length = k := by rw [List.length_take]; omega
  have e2 : (cs.take (k + 1)).length = k + 1 := by rw [List.length_take]; omega
  rw [e1, e2, ptake h, List.map_append, List.set_append_right _ _ (by rw [List.length_map, e1]; exact Nat.le_refl _), List.length_map, e1, Nat.sub_self, List.drop_eq_getElem_cons (show k < s.length by omega), List.set_cons_zero, List.append_assoc]
  rfl
theorem takL_bd {n : Nat} {m : Int} (hn : n ≤ 1048576) : ∀ x ∈ takL n m, -1 ≤ x ∧ x ≤ 1048576 := by
  intro x hx
  unfold takL at hx
  obtain ⟨i, _, rfl⟩ := List.mem_map.1 hx
  unfold takF
  split <;> omega
theorem owns_addr20 {w : World} {base : Nat} {e : TypeId} {zo : Option Addr} {n zc : Nat} {xs : List Value} (h : w.ownsRow base e 1 (.slice zo n zc) n xs) (hn : 0 < n) : ∃ g, zo = some ⟨g, 0, none⟩ ∧ base ≤ g := by
  rcases h.2 with ⟨e1, e2⟩ | ⟨g, cap, cur, e1, hb, _⟩
  · omega
  · cases e1; exact ⟨g, rfl, hb⟩
theorem ints_set20 (l : List Int) (k : Nat) (x : Int) : ints (l.set k x) = (ints l).set k (.int .i64 x) := by unfold ints; rw [List.map_set]
theorem ptaken_m20 (n : Nat) (many : Int) (w : World) (hn : n ≤ 1048576) (hm : many.natAbs ≤ 1048576) :
    Calls Tryz.prog 61 #[.int .i64 (n : Int), .int .i64 many, .int .i64 1048576] w fun e w' => ∃ v, e = .returned (.tuple #[v, .bool true]) ∧ Slc w' (fun b => w.heap.size ≤ b) v (takL n many).length (ints (takL n many)) ∧ Below w.heap.size w w' :=
  ptaken_yes n many 1048576 w hn hm (Nat.le_refl _)

set_option maxHeartbeats 8000000 in
theorem rstaken_calls {ok ok2 ok3 : Nat → Prop} (v v2 u : Value) (cs s : List Int) (V : VV) (most : Int) (cn : Nat) (w : World) (hv : Slc w ok v cs.length (ints cs)) (hv2 : Slc w ok2 v2 s.length (ints s)) (hu : IsV w ok3 u V) (hg : gV 39 V) (hlen : cs.length ≤ s.length) (h8 : s.length ≤ 8)
    (hs : ∀ x ∈ s, 0 ≤ x ∧ x ≤ 1048576) (hc : ∀ x ∈ cs, x.natAbs ≤ 1048576) (hm : most ≤ 1048576) (hpr : prodR (tkS cs s) most = ((cn : Int), 0))
    (hA : ∀ k, k < s.length → (tkA cs s k).length ≤ 1048576 ∧ (tkA cs s k).length * (tkP cs s k).length ≤ 1048576 ∧ ∀ x ∈ tkA cs s k, -1 ≤ x ∧ x ≤ 1099511627776) (hAl : (tkA cs s s.length).length = cn) (hT : TabAt w) :
    Calls Tryz.prog 39 #[v, v2, .agg #[u], .int .i64 most] w (RsOr ok3 0 (tkS cs s, V.sel (tkA cs s s.length)) w) := by
  obtain ⟨ao, ac, rfl, _⟩ := hv.opened
  obtain ⟨bo, bc, rfl, _⟩ := hv2.opened
  have hsu := hu.store
  obtain ⟨c, hce⟩ : ∃ c, cs.length = c := ⟨_, rfl⟩
  obtain ⟨n, hne⟩ : ∃ n, s.length = n := ⟨_, rfl⟩
  rw [hce] at hv hlen ⊢
  rw [hne] at hv2 hlen h8 hA hAl ⊢
  have HC := Lib.hid hce
  have HN := Lib.hid hne
  have HLEN := Lib.hid hlen
  have H8 := Lib.hid h8
  have HSB := Lib.hid hs
  have HCB := Lib.hid hc
  have HMO := Lib.hid hm
  have HPR := Lib.hid hpr
  have HTA := Lib.hid hA
  have HTL := Lib.hid hAl
  have HG := Lib.hid hg
  have HBX := Lib.hid (show ∀ a ∈ V.boxs, a.1.length ≤ 1048576 from fun a ha => by
    have := (prodR_len (hg.2.2.2 a ha).1).1
    omega)
  have HGS := Lib.hid (show ∀ l : List Int, l.length ≤ 1048576 → gV 39 (V.sel l) from fun l hl => gV_sel hg hl)
  obtain ⟨VA, hVA⟩ : ∃ VA, V.sel (tkA cs s n) = VA := ⟨_, rfl⟩
  have HVA := Lib.hid hVA
  obtain ⟨ZS, hZS⟩ : ∃ ZS, tkS cs s = ZS := ⟨_, rfl⟩
  have HZS := Lib.hid hZS
  have HZL := Lib.hid (show ZS.length = n by rw [← hZS, tkS_len (by rw [hce, hne]; exact hlen), hne])
  rw [hVA, hZS]
  rw [hZS] at HPR
  obtain ⟨Z, hZ⟩ : ∃ Z : Nat → List Int, ∀ k, Z k = tkS (cs.take k) s := ⟨_, fun _ => rfl⟩
  have HZ0 := Lib.hid (show Z 0 = s by rw [hZ, tkS_zero])
  have HZSU := Lib.hid (show ∀ k x, cs[k]? = some x → Z (k + 1) = (Z k).set k (tkN x) from fun k x h => by rw [hZ, hZ, tkS_succ h (by rw [hce, hne]; exact hlen)])
  have HZN := Lib.hid (show Z c = ZS by rw [hZ, ← hce, List.take_length, hZS])
  have HZK := Lib.hid (show ∀ k, (Z k).length = n from fun k => by rw [hZ, tkS_len (by rw [List.length_take, hce, hne]; omega), hne])
  obtain ⟨W1, hW1⟩ : ∃ W1, W1 = (w.alloc (.cells #[u] 29)).alloc (.cells #[.slice none 0 0, .nilIface] 31) := ⟨_, rfl⟩
  have HB := Lib.hid (show Below w.heap.size w W1 by rw [hW1]; exact (below_new _ _).alloc (by simp) _)
  have HU := Lib.hid (show At1 W1 w.heap.size u by rw [hW1]; exact (At1.new w _ _).below (below_new _ _))
  have HR := Lib.hid (show At2 W1 (w.heap.size + 1) (.slice none 0 0) .nilIface by rw [hW1]; have := At2.new (w.alloc (.cells #[u] 29)) (.slice none 0 0) .nilIface 31; simpa using this)
  have HV := Lib.hid (show IsV W1 (fun b => ok3 b ∧ b < w.heap.size) u V from hu.lt.grow HB.out)
  have HCS := Lib.hid (show Slc W1 (fun _ => True) (.slice ao c ac) c (ints cs) from (hv.below HB.out).any)
  have HS := Lib.hid (show Slc W1 (fun _ => True) (.slice bo n bc) n (ints s) from (hv2.below HB.out).any)
  have HT := Lib.hid (show TabAt W1 from fun j hj => keep_below HB.out _ _ (hT j hj))
  have HW1 := Lib.hid (Below.refl W1.heap.size W1)
  have HWW := Lib.hid (show W1.heap.size = w.heap.size + 2 by rw [hW1]; simp)
  have hfold := hW1.symm
  clear hv hv2 hu hg hlen h8 hs hc hm hpr hA hAl hT hW1 hce hne hVA hZS hZ
  have cHU0 := HU.out.2.1
  have cHR0 := HR.out.2.1
  have cHR1 := HR.out.2.2.1
  go_enter Tryz.func39, Tryz.ntmps39
  go_wp2_with fail
  clear hfold
  clear cHU0 cHR0 cHR1
  refine (cloneOwn_calls _ s W1 (by rw [HN.out]; exact HS.out) (by have := H8.out; have := HN.out; omega)).mono ?_
  rintro e W2 ⟨vz, rfl, hown, hB2⟩
  rw [HN.out] at hown
  obtain ⟨zo, zc, rfl⟩ := owns_form hown
  have HO := Lib.hid (show W2.ownsRow W1.heap.size 3 1 (.slice zo n zc) n (ints (Z 0)) by rw [HZ0.out]; exact hown)
  have HB2 := Lib.hid hB2
  obtain ⟨G, hG⟩ : ∃ G, W1.heap.size = G := ⟨_, rfl⟩
  have HGE := Lib.hid hG
  rw [hG] at HO HB2
  clear hown hB2 hG
  go_wp2_with fail
  go_loopw [25] (fun iv wr => ∃ k : Nat, k ≤ c ∧ iv = .int .i64 k ∧ wr.ownsRow G 3 1 (.slice zo n zc) n (ints (Z k)) ∧ Below G W1 wr) (fun iv _ => c - (intOf iv).toNat)
  case atStart => exact ⟨0, by omega, rfl, HO.out, HB2.out⟩
  case round =>
    clear HO HB2
    obtain ⟨k, hk, rfl, hown, hB⟩ := hrel
    have HO := Lib.hid hown
    have HBk := Lib.hid (show Below W1.heap.size W1 wr by rw [HGE.out]; exact hB)
    have HBG := Lib.hid hB
    clear hown hB
    by_cases hlt : k < c
    · obtain ⟨g, rfl, hgG⟩ := owns_addr20 HO.out (by have := HLEN.out; omega)
      have HGG := Lib.hid hgG
      have hkn : k < n := by have := HLEN.out; omega
      have HLT := Lib.hid hlt
      have hc9 : c ≤ 8 := by have := HLEN.out; have := H8.out; omega
      have hcw := owns_cell HO.out k (by rw [ints_len, HZK.out]; exact hkn)
      have hfr := World.ownsRow.frozenAt HO.out k
      obtain ⟨old, hold⟩ : ∃ old, (ints (Z k))[k]'(by rw [ints_len, HZK.out]; exact hkn) = old := ⟨_, rfl⟩
      rw [hold] at hcw
      clear hold hgG
      obtain ⟨b, off, cap1, x, e, hx, c0⟩ := Slc.at_map (Value.int .i64) (l := cs) (by rw [HC.out]; exact HCS.out.below HBk.out) k (by rw [HC.out]; exact hlt)
      rw [HC.out] at e
      cases e
      have HXS := Lib.hid (HZSU.out k x hx)
      have hxb := HCB.out x (by obtain ⟨h1, h2⟩ := List.getElem?_eq_some_iff.1 hx; rw [← h2]; exact List.getElem_mem h1)
      obtain ⟨M, hM⟩ : ∃ M : Int, (if -x > x then -x else x) = M := ⟨_, rfl⟩
      have hmax : ∀ (ts : Array TypeId) (t : TypeId) (w : World), (Builtin.max_ ts t #[.int .i64 x, .int .i64 (-x)]).run Tryz.prog w = .ok (.int .i64 M) w := fun ts t w => by rw [run_max_int2, hM]
      have HTK := Lib.hid (show tkN x = lnF M by unfold tkN; rw [hM])
      clear hx hM
      go_wp2_with fail
      refine (rslen_calls M _).mono ?_
      rintro e w9 ⟨rfl, rfl⟩
      go_wp2
      have hlt9 := HLT.out
      go_roundw
      case rel =>
        refine ⟨k + 1, by omega, by go_num, ?_, HBG.out.setCell (p := ⟨g, k, none⟩) HGG.out _⟩
        have := (World.ownsRow.stored HO.out k (.int .i64 (lnF M))).1
        rw [HXS.out, HTK.out, ints_set20]
        exact this
      case measure => simp [intOf]; omega
    · have hkl : c = k := by omega
      subst hkl
      clear hlt hk
      have HZV := Lib.hid (show Slc wr (fun _ => True) (.slice zo n zc) ZS.length (ints ZS) by
        have h1 := (Slc.owned HO.out).any
        rw [HZN.out] at h1
        rw [HZL.out]; exact h1)
      have hB := HBk.out
      obtain ⟨WA, hWA⟩ : ∃ x, x = wr := ⟨wr, rfl⟩
      rw [← hWA] at HZV hB ⊢
      clear HBG HBk HO hWA
      replace HU := Lib.hid (HU.out.below hB)
      replace HR := Lib.hid (HR.out.below hB)
      replace HB := Lib.hid (HB.out.trans (hB.mono HB.out.size))
      replace HW1 := Lib.hid (HW1.out.trans (hB.mono HW1.out.size))
      replace HV := Lib.hid (HV.out.grow hB)
      replace HCS := Lib.hid (HCS.out.below hB)
      replace HS := Lib.hid (HS.out.below hB)
      replace HT := Lib.hid (fun j hj => keep_below hB _ _ (HT.out j hj))
      clear hB
      have cHU0 := HU.out.2.1
      have cHR0 := HR.out.2.1
      have cHR1 := HR.out.2.2.1
      go_wp2_with fail
      refine (sproduct_calls _ ZS most _ HZV.out (by rw [HZL.out]; have := H8.out; omega)).mono ?_
      rintro e W11 ⟨rfl, hB⟩
      clear cHU0 cHR0 cHR1
      replace HU := Lib.hid (HU.out.below hB)
      replace HR := Lib.hid (HR.out.below hB)
      replace HB := Lib.hid (HB.out.trans (hB.mono HB.out.size))
      replace HW1 := Lib.hid (HW1.out.trans (hB.mono HW1.out.size))
      replace HV := Lib.hid (HV.out.grow hB)
      replace HCS := Lib.hid (HCS.out.below hB)
      replace HS := Lib.hid (HS.out.below hB)
      replace HT := Lib.hid (fun j hj => keep_below hB _ _ (HT.out j hj))
      replace HZV := Lib.hid (HZV.out.below hB)
      rw [HPR.out]
      clear hB
      have cHU0 := HU.out.2.1
      have cHR0 := HR.out.2.1
      have cHR1 := HR.out.2.2.1
      obtain ⟨WL, hWL⟩ : ∃ xw9, W11.alloc (.cells #[.int .i64 0] 3) = xw9 := ⟨_, rfl⟩
      have hB : Below W11.heap.size W11 WL := by rw [← hWL]; exact below_new _ _
      have hNB : Slc WL (fun _ => True) (.slice (some ⟨W11.heap.size, 0, none⟩) 1 1) 1 (ints (tkA cs s 0)) := by
        rw [← hWL]; exact (Slc.owned (World.ownsRow_lit (base := 0) (e := 3) (size := 1) W11 #[.int .i64 0] 1 (Nat.zero_le _) (by unfold maxLen; omega) rfl)).keep (Kept.refl _ _) (fun _ _ _ => trivial)
      clear cHU0 cHR0 cHR1
      replace HU := Lib.hid (HU.out.below hB)
      replace HR := Lib.hid (HR.out.below hB)
      replace HB := Lib.hid (HB.out.trans (hB.mono HB.out.size))
      replace HW1 := Lib.hid (HW1.out.trans (hB.mono HW1.out.size))
      replace HV := Lib.hid (HV.out.grow hB)
      replace HCS := Lib.hid (HCS.out.below hB)
      replace HS := Lib.hid (HS.out.below hB)
      replace HT := Lib.hid (fun j hj => keep_below hB _ _ (HT.out j hj))
      replace HZV := Lib.hid (HZV.out.below hB)
      have HA0 := Lib.hid hNB
      clear hNB hB
      go_wp2_with fail
      clear hWL
      go_loopw [15, 52] (fun ov iv wr => ∃ k : Nat, k ≤ n ∧ iv = .int .i64 k ∧ Slc wr (fun _ => True) ov (tkA cs s k).length (ints (tkA cs s k)) ∧ Below WL.heap.size WL wr) (fun _ iv _ => n - (intOf iv).toNat)
      case atStart => exact ⟨0, by omega, rfl, HA0.out, Below.refl _ _⟩
      case round =>
        clear HA0
        obtain ⟨k, hk, rfl, hat, hB⟩ := hrel
        replace HU := Lib.hid (HU.out.below hB)
        replace HR := Lib.hid (HR.out.below hB)
        replace HB := Lib.hid (HB.out.trans (hB.mono HB.out.size))
        replace HW1 := Lib.hid (HW1.out.trans (hB.mono HW1.out.size))
        replace HV := Lib.hid (HV.out.grow hB)
        replace HCS := Lib.hid (HCS.out.below hB)
        replace HS := Lib.hid (HS.out.below hB)
        replace HT := Lib.hid (fun j hj => keep_below hB _ _ (HT.out j hj))
        replace HZV := Lib.hid (HZV.out.below hB)
        have HAT := Lib.hid hat
        obtain ⟨qo, qc, rfl, _⟩ := hat.opened
        have HBL := Lib.hid hB
        clear hat hB
        by_cases hlt : k < n
        · obtain ⟨b, off, cap1, x, e, hx, c0⟩ := Slc.at_map (Value.int .i64) (l := s) (by rw [HN.out]; exact HS.out) k (by rw [HN.out]; exact hlt)
          rw [HN.out] at e
          cases e
          have hxb := HSB.out x (by obtain ⟨h1, h2⟩ := List.getElem?_eq_some_iff.1 hx; rw [← h2]; exact List.getElem_mem h1)
          obtain ⟨xn, rfl⟩ := Int.eq_ofNat_of_zero_le hxb.1
          have HXN := Lib.hid (show xn ≤ 1048576 by omega)
          have HLT := Lib.hid hlt
          have hn9 : n ≤ 8 := H8.out
          have HXG := Lib.hid (show s.getD k 0 = (xn : Int) by rw [List.getD_eq_getElem?_getD, hx]; rfl)
          obtain ⟨ht1, ht2, ht3⟩ := HTA.out k hlt
          obtain ⟨L, hL⟩ : ∃ L, tkA cs s k = L := ⟨_, rfl⟩
          rw [hL] at HAT ht1 ht2 ht3 ⊢
          have HLE := Lib.hid hL
          obtain ⟨ln, hln⟩ : ∃ ln, L.length = ln := ⟨_, rfl⟩
          have HLN := Lib.hid hln
          rw [hln] at HAT ht1 ht2 ⊢
          have HT1 := Lib.hid ht1
          have HT2 := Lib.hid ht2
          have HT3 := Lib.hid ht3
          clear hx hxb ht1 ht2 ht3 hL hln
          by_cases hkc : k < c
          · obtain ⟨b2, off2, cap2, m, e, hx, c1⟩ := Slc.at_map (Value.int .i64) (l := cs) (by rw [HC.out]; exact HCS.out) k (by rw [HC.out]; exact hkc)
            rw [HC.out] at e
            cases e
            have HMB := Lib.hid (HCB.out m (by obtain ⟨h1, h2⟩ := List.getElem?_eq_some_iff.1 hx; rw [← h2]; exact List.getElem_mem h1))
            have HM := Lib.hid (show tkM cs s k = m by unfold tkM; rw [if_pos (by rw [HC.out]; exact hkc), List.getD_eq_getElem?_getD, hx]; rfl)
            clear hx
            go_wp2_with fail
            obtain ⟨PL, hPL⟩ : ∃ PL, takL xn m = PL := ⟨_, rfl⟩
            have HPL := Lib.hid hPL
            have HPE := Lib.hid (show tkP cs s k = PL by unfold tkP; rw [HXG.out, HM.out]; simpa using hPL)
            clear hPL
            refine (ptaken_m20 xn m _ HXN.out HMB.out).mono ?_
            rintro e W12 ⟨pv, rfl, hpv, hB⟩
            replace HU := Lib.hid (HU.out.below hB)
            replace HR := Lib.hid (HR.out.below hB)
            replace HB := Lib.hid (HB.out.trans (hB.mono HB.out.size))
            replace HW1 := Lib.hid (HW1.out.trans (hB.mono HW1.out.size))
            replace HV := Lib.hid (HV.out.grow hB)
            replace HCS := Lib.hid (HCS.out.below hB)
            replace HS := Lib.hid (HS.out.below hB)
            replace HT := Lib.hid (fun j hj => keep_below hB _ _ (HT.out j hj))
            replace HZV := Lib.hid (HZV.out.below hB)
            replace HAT := Lib.hid (HAT.out.below hB)
            replace HBL := Lib.hid (HBL.out.trans (hB.mono HBL.out.size))
            rw [HPL.out] at hpv
            have HPV := Lib.hid hpv.any
            obtain ⟨po, pc, rfl, _⟩ := hpv.opened
            clear hpv
            clear hB
            obtain ⟨pl, hpl⟩ : ∃ pl, PL.length = pl := ⟨_, rfl⟩
            have HPLL := Lib.hid hpl
            rw [hpl] at HPV ⊢
            clear hpl
            have hlt9 := hlt
            go_wp2_with fail
            refine (rswithin_calls _ _ L PL (xn : Int) _ (by rw [HLN.out]; exact HAT.out) (by rw [HPLL.out]; exact HPV.out) (by rw [HLN.out, ← HPE.out]; exact HT2.out) (by rw [HLN.out]; exact HT1.out) (by rw [← HPL.out, tak_len]; exact HMB.out) (by omega) (by have := HXN.out; omega) HT3.out (by rw [← HPL.out]; exact takL_bd HXN.out)).mono ?_
            rintro e W13 ⟨nv, rfl, hnv, hB⟩
            replace HU := Lib.hid (HU.out.below hB)
            replace HR := Lib.hid (HR.out.below hB)
            replace HB := Lib.hid (HB.out.trans (hB.mono HB.out.size))
            replace HW1 := Lib.hid (HW1.out.trans (hB.mono HW1.out.size))
            replace HV := Lib.hid (HV.out.grow hB)
            replace HCS := Lib.hid (HCS.out.below hB)
            replace HS := Lib.hid (HS.out.below hB)
            replace HT := Lib.hid (fun j hj => keep_below hB _ _ (HT.out j hj))
            replace HZV := Lib.hid (HZV.out.below hB)
            replace HAT := Lib.hid (HAT.out.below hB)
            replace HBL := Lib.hid (HBL.out.trans (hB.mono HBL.out.size))
            replace HPV := Lib.hid (HPV.out.below hB)
            have HNV := Lib.hid hnv.any
            obtain ⟨no, nc, rfl, _⟩ := hnv.opened
            clear hnv
            clear hB
            obtain ⟨nl, hnl⟩ : ∃ nl, (wthL L (xn : Int) PL).length = nl := ⟨_, rfl⟩
            have HNL := Lib.hid hnl
            rw [hnl] at HNV ⊢
            clear hnl
            go_wp2
            have hlt9 := HLT.out
            go_roundw
            case rel =>
              refine ⟨k + 1, by omega, by go_num, ?_, HBL.out⟩
              show Slc _ _ _ (wthL (tkA cs s k) (s.getD k 0) (tkP cs s k)).length (ints (wthL (tkA cs s k) (s.getD k 0) (tkP cs s k)))
              rw [HLE.out, HXG.out, HPE.out, HNL.out]
              exact HNV.out
            case measure => simp [intOf]; omega
          · have HMB := Lib.hid (show (xn : Int).natAbs ≤ 1048576 by have := HXN.out; omega)
            have HM := Lib.hid (show tkM cs s k = (xn : Int) by unfold tkM; rw [if_neg (by rw [HC.out]; exact hkc), HXG.out])
            go_wp2_with fail
            obtain ⟨PL, hPL⟩ : ∃ PL, takL xn (xn : Int) = PL := ⟨_, rfl⟩
            have HPL := Lib.hid hPL
            have HPE := Lib.hid (show tkP cs s k = PL by unfold tkP; rw [HXG.out, HM.out]; simpa using hPL)
            clear hPL
            refine (ptaken_m20 xn (xn : Int) _ HXN.out HMB.out).mono ?_
            rintro e W12 ⟨pv, rfl, hpv, hB⟩
            replace HU := Lib.hid (HU.out.below hB)
            replace HR := Lib.hid (HR.out.below hB)
            replace HB := Lib.hid (HB.out.trans (hB.mono HB.out.size))
            replace HW1 := Lib.hid (HW1.out.trans (hB.mono HW1.out.size))
            replace HV := Lib.hid (HV.out.grow hB)
            replace HCS := Lib.hid (HCS.out.below hB)
            replace HS := Lib.hid (HS.out.below hB)
            replace HT := Lib.hid (fun j hj => keep_below hB _ _ (HT.out j hj))
            replace HZV := Lib.hid (HZV.out.below hB)
            replace HAT := Lib.hid (HAT.out.below hB)
            replace HBL := Lib.hid (HBL.out.trans (hB.mono HBL.out.size))
            rw [HPL.out] at hpv
            have HPV := Lib.hid hpv.any
            obtain ⟨po, pc, rfl, _⟩ := hpv.opened
            clear hpv
            clear hB
            obtain ⟨pl, hpl⟩ : ∃ pl, PL.length = pl := ⟨_, rfl⟩
            have HPLL := Lib.hid hpl
            rw [hpl] at HPV ⊢
            clear hpl
            have hlt9 := hlt
            go_wp2_with fail
            refine (rswithin_calls _ _ L PL (xn : Int) _ (by rw [HLN.out]; exact HAT.out) (by rw [HPLL.out]; exact HPV.out) (by rw [HLN.out, ← HPE.out]; exact HT2.out) (by rw [HLN.out]; exact HT1.out) (by rw [← HPL.out, tak_len]; exact HMB.out) (by omega) (by have := HXN.out; omega) HT3.out (by rw [← HPL.out]; exact takL_bd HXN.out)).mono ?_
            rintro e W13 ⟨nv, rfl, hnv, hB⟩
            replace HU := Lib.hid (HU.out.below hB)
            replace HR := Lib.hid (HR.out.below hB)
            replace HB := Lib.hid (HB.out.trans (hB.mono HB.out.size))
            replace HW1 := Lib.hid (HW1.out.trans (hB.mono HW1.out.size))
            replace HV := Lib.hid (HV.out.grow hB)
            replace HCS := Lib.hid (HCS.out.below hB)
            replace HS := Lib.hid (HS.out.below hB)
            replace HT := Lib.hid (fun j hj => keep_below hB _ _ (HT.out j hj))
            replace HZV := Lib.hid (HZV.out.below hB)
            replace HAT := Lib.hid (HAT.out.below hB)
            replace HBL := Lib.hid (HBL.out.trans (hB.mono HBL.out.size))
            replace HPV := Lib.hid (HPV.out.below hB)
            have HNV := Lib.hid hnv.any
            obtain ⟨no, nc, rfl, _⟩ := hnv.opened
            clear hnv
            clear hB
            obtain ⟨nl, hnl⟩ : ∃ nl, (wthL L (xn : Int) PL).length = nl := ⟨_, rfl⟩
            have HNL := Lib.hid hnl
            rw [hnl] at HNV ⊢
            clear hnl
            go_wp2
            have hlt9 := HLT.out
            go_roundw
            case rel =>
              refine ⟨k + 1, by omega, by go_num, ?_, HBL.out⟩
              show Slc _ _ _ (wthL (tkA cs s k) (s.getD k 0) (tkP cs s k)).length (ints (wthL (tkA cs s k) (s.getD k 0) (tkP cs s k)))
              rw [HLE.out, HXG.out, HPE.out, HNL.out]
              exact HNV.out
            case measure => simp [intOf]; omega
        · have hkn : n = k := by omega
          subst hkn
          clear hlt hk
          obtain ⟨LA, hLA⟩ : ∃ LA, tkA cs s n = LA := ⟨_, rfl⟩
          have HTL2 := Lib.hid (show LA.length = cn by rw [← hLA]; exact HTL.out)
          have HVA2 := Lib.hid (show V.sel LA = VA by rw [← hLA]; exact HVA.out)
          rw [hLA] at HAT ⊢
          clear hLA
          rw [HTL2.out] at HAT ⊢
          have HCN := Lib.hid (show cn ≤ 1048576 by have := (prodR_fits20 HPR.out HMO.out).2.1; omega)
          have HBS := Lib.hid HW1.out.size
          have cHU0 := HU.out.2.1
          have cHR0 := HR.out.2.1
          have cHR1 := HR.out.2.2.1
          have zHR0 := HR.out.2.2.2 0
          have zHR1 := HR.out.2.2.2 1
          go_wp2_with fail
          refine (pick_calls _ V _ LA _ HV.out HG.out.1 HG.out.2.1 HBX.out (by rw [HTL2.out]; exact HAT.out) (by rw [HTL2.out]; exact HCN.out) HT.out).mono ?_
          rintro e W12 ⟨ua, rfl, hr, hB⟩
          clear cHU0 cHR0 cHR1 zHR0 zHR1
          replace HU := Lib.hid (HU.out.below hB)
          replace HR := Lib.hid (HR.out.below hB)
          replace HB := Lib.hid (HB.out.trans (hB.mono HB.out.size))
          replace HW1 := Lib.hid (HW1.out.trans (hB.mono HW1.out.size))
          replace HV := Lib.hid (HV.out.grow hB)
          replace HCS := Lib.hid (HCS.out.below hB)
          replace HS := Lib.hid (HS.out.below hB)
          replace HT := Lib.hid (fun j hj => keep_below hB _ _ (HT.out j hj))
          replace HZV := Lib.hid (HZV.out.below hB)
          replace HAT := Lib.hid (HAT.out.below hB)
          replace HBL := Lib.hid (HBL.out.trans (hB.mono HBL.out.size))
          rw [HVA2.out] at hr
          have HUA := Lib.hid (show IsV W12 (fun b => (ok3 b ∧ b < w.heap.size) ∨ w.heap.size + 2 ≤ b) ua VA from hr.wide (fun b _ h => by have := HBS.out; have := HWW.out; rcases h with ⟨h, _⟩ | h; exact Or.inl h; exact Or.inr (by omega)))
          have hsa := hr.store
          clear hr
          clear hB
          have hgv : gV 39 VA := by rw [← HVA2.out]; exact HGS.out _ (by rw [HTL2.out]; exact HCN.out)
          have HGV := Lib.hid hgv
          have HVL := Lib.hid (show VA.len = cn by rw [← HVA2.out, VV.sel_len _ _ (VV.nums_num HG.out.1 HG.out.2.1) (by rw [HTL2.out]; exact HCN.out), HTL2.out])
          clear hgv
          go_wp2_with fail
          have HBS2 := Lib.hid HW1.out.size
          refine (vnew_ok _ ua ZS VA _ HZV.out (by rw [HZL.out]; have := H8.out; omega) HUA.out HGV.out.1 HGV.out.2.1 HT.out).mono ?_
          rintro e W13 ⟨ns, nu, rfl, hn1, hn2, hB⟩
          replace HU := Lib.hid (HU.out.below hB)
          replace HR := Lib.hid (HR.out.below hB)
          replace HB := Lib.hid (HB.out.trans (hB.mono HB.out.size))
          replace HW1 := Lib.hid (HW1.out.trans (hB.mono HW1.out.size))
          replace HV := Lib.hid (HV.out.grow hB)
          replace HCS := Lib.hid (HCS.out.below hB)
          replace HS := Lib.hid (HS.out.below hB)
          replace HT := Lib.hid (fun j hj => keep_below hB _ _ (HT.out j hj))
          replace HZV := Lib.hid (HZV.out.below hB)
          replace HAT := Lib.hid (HAT.out.below hB)
          replace HBL := Lib.hid (HBL.out.trans (hB.mono HBL.out.size))
          replace HUA := Lib.hid (HUA.out.grow hB)
          have e0 : newE ZS VA = 0 := newE_fit (by rw [HVL.out]; exact (prodR_fits20 HPR.out HMO.out).2.2) (VV.kind_pos HGV.out.2.2.1)
          rw [tight_sq HGV.out.2.2.1] at hn1
          rw [e0]
          have hra := hn1 e0
          obtain ⟨no, nc, rfl, _⟩ := hra.1.opened
          have HY := Lib.hid (show IsArr W13 (fun b => (ok3 b ∧ b < w.heap.size) ∨ w.heap.size + 2 ≤ b) (.slice no ZS.length nc) nu (ZS, VA) from hra.wide (fun b h1 h2 => by have := HBS2.out; have := HWW.out; rcases h2 with ⟨h2, _⟩ | h2; exact h2; exact Or.inr (by omega)))
          have hsn := hra.2.store
          clear hn1 hn2 e0 hra
          clear hB
          obtain ⟨zl, hzl⟩ : ∃ zl, ZS.length = zl := ⟨_, rfl⟩
          rw [hzl] at HY ⊢
          clear hzl
          have cHU0 := HU.out.2.1
          have cHR0 := HR.out.2.1
          have cHR1 := HR.out.2.2.1
          have zHR0 := HR.out.2.2.2 0
          have zHR1 := HR.out.2.2.2 1
          go_wp2_with fail
          refine bodyPost_ret (v := .tuple #[.agg #[.slice no zl nc, nu], .int .i64 0]) (by simp [results, Tryz.results39, go_sem, World.cell?_setCell_same, cHR0, cHR1]) rfl ⟨no, (zl, nc), nu, rfl, fun _ => ?_, fun h => absurd rfl h, (HB.out.setCell (by show w.heap.size ≤ w.heap.size + 1; omega) _).setCell (by show w.heap.size ≤ w.heap.size + 1; omega) _⟩
          exact IsArr.keep (ok := fun b => (ok3 b ∧ b < w.heap.size) ∨ w.heap.size + 2 ≤ b) ((Kept.setCell _ _ _ (by rintro (⟨_, h⟩ | h) <;> simp at h <;> omega)).trans (Kept.setCell _ _ _ (by rintro (⟨_, h⟩ | h) <;> simp at h <;> omega))) (fun b _ h => h.imp id (fun h => by omega)) HY.out
end Go.Proofs.YtbfcdpabjailcaaGreatDoor

/- Layer 20, walked: along, Take. Written by tools/gen_rsg.py. -/
namespace Go.Proofs.YtbfcdpabjailcaaGreatDoor
set_option maxRecDepth 100000
open Go.RowKit Fl
set_option linter.unusedVariables false

/-- The shape whose first axes counts are for. -/
def tkX (cs s : List Int) : List Int := if s.length = 0 then List.replicate cs.length 1 else s
def AlgOk (cs s : List Int) (w : World) (e : Ending) (w' : World) : Prop := ∃ v v2, e = .returned (.tuple #[v, v2, .int .i64 0]) ∧ Slc w' (fun _ => True) v cs.length (ints cs) ∧ Slc w' (fun _ => True) v2 s.length (ints s) ∧ Below w.heap.size w w'
theorem ints_rep20 (m : Nat) (x : Int) : ints (List.replicate m x) = List.replicate m (.int .i64 x) := by unfold ints; rw [List.map_replicate]
set_option maxHeartbeats 8000000 in
theorem rsalong_calls {ok ok2 : Nat → Prop} (sh u sh2 u2 : Value) (S A : List Int × VV) (w : World) (h : IsArr w ok sh u S) (hok : S.2.ok) (hn : S.2.nm) (h2 : IsArr w ok2 sh2 u2 A) (h0 : inE S = 0) (hl : S.2.sq.whs.length ≤ (tkX S.2.sq.whs A.1).length) (hm : S.2.sq.whs.length ≤ 1048576) (hT : TabAt w) :
    Calls Tryz.prog 38 #[.agg #[sh, u], .agg #[sh2, u2]] w (AlgOk S.2.sq.whs (tkX S.2.sq.whs A.1) w) := by
  obtain ⟨so, sc, rfl, _⟩ := h.1.opened
  obtain ⟨so2, sc2, rfl, _⟩ := h2.1.opened
  obtain ⟨s, V⟩ := S
  obtain ⟨s2, V2⟩ := A
  simp only at hok hn hl hm h h2 ⊢
  have hsu := h.2.store
  have hsu2 := h2.2.store
  obtain ⟨n, hne⟩ : ∃ n, s.length = n := ⟨_, rfl⟩
  obtain ⟨n2, hne2⟩ : ∃ n2, s2.length = n2 := ⟨_, rfl⟩
  have HOK := Lib.hid hok
  have HNM := Lib.hid hn
  have HN := Lib.hid hne
  have HN2 := Lib.hid hne2
  rw [hne, hne2]
  have HSL := Lib.hid (show IsArr w ok (.slice so n sc) u (s, V) by rw [← hne]; exact h)
  have HSL2 := Lib.hid (show IsArr w ok2 (.slice so2 n2 sc2) u2 (s2, V2) by rw [← hne2]; exact h2)
  obtain ⟨WH, hWH⟩ : ∃ WH, V.sq.whs = WH := ⟨_, rfl⟩
  have HWH := Lib.hid hWH
  rw [hWH] at hl hm ⊢
  obtain ⟨TX, hTX⟩ : ∃ TX, tkX WH s2 = TX := ⟨_, rfl⟩
  rw [hTX] at hl ⊢
  have HL := Lib.hid hl
  have HM := Lib.hid hm
  have HTX := Lib.hid hTX
  have HI0 := Lib.hid h0
  obtain ⟨m, hme⟩ : ∃ m, WH.length = m := ⟨_, rfl⟩
  have HME := Lib.hid hme
  obtain ⟨W1, hW1⟩ : ∃ W1, W1 = (w.alloc (.cells #[.slice so n sc, u] 31)).alloc (.cells #[.slice so2 n2 sc2, u2] 31) := ⟨_, rfl⟩
  have HB := Lib.hid (show Below w.heap.size w W1 by rw [hW1]; exact (below_new _ _).alloc (by simp) _)
  have HA := Lib.hid (show At2 W1 w.heap.size (.slice so n sc) u by rw [hW1]; exact (At2.new w _ _ _).below (below_new _ _))
  have HA2 := Lib.hid (show At2 W1 (w.heap.size + 1) (.slice so2 n2 sc2) u2 by rw [hW1]; have := At2.new (w.alloc (.cells #[.slice so n sc, u] 31)) (.slice so2 n2 sc2) u2 31; simpa using this)
  have HX := Lib.hid (show IsArr W1 (fun _ => True) (.slice so n sc) u (s, V) from (HSL.out.wide (fun _ _ _ => trivial)).grow HB.out)
  have HX2 := Lib.hid (show IsArr W1 (fun _ => True) (.slice so2 n2 sc2) u2 (s2, V2) from (HSL2.out.wide (fun _ _ _ => trivial)).grow HB.out)
  have HT := Lib.hid (show TabAt W1 from fun j hj => keep_below HB.out _ _ (hT j hj))
  have hfold := hW1.symm
  clear h h2 hW1 hok hn hT hne hne2 hl hm hTX h0 hWH hme
  have cHA0 := HA.out.2.1
  have cHA1 := HA.out.2.2.1
  have cHA20 := HA2.out.2.1
  have cHA21 := HA2.out.2.2.1
  go_enter Tryz.func38, Tryz.ntmps38
  go_wp2_with fail
  clear hfold
  refine (rsints_calls _ _ (s, V) _ HX.out HOK.out HNM.out HT.out).mono ?_
  rintro e W11 ⟨v, rfl, hv1, hv2, hB⟩
  clear cHA0 cHA1 cHA20 cHA21
  replace HA := Lib.hid (HA.out.below hB)
  replace HA2 := Lib.hid (HA2.out.below hB)
  replace HB := Lib.hid (HB.out.trans (hB.mono HB.out.size))
  replace HX := Lib.hid (HX.out.grow hB)
  replace HX2 := Lib.hid (HX2.out.grow hB)
  replace HT := Lib.hid (fun j hj => keep_below hB _ _ (HT.out j hj))
  rw [HI0.out] at hv1 hv2 ⊢
  have HV1 := Lib.hid (hv1 rfl).any
  clear hv1 hv2
  rw [show (s, V).2.sq.whs = WH from HWH.out, HME.out] at HV1
  obtain ⟨vo, vc, rfl, _⟩ := HV1.out.opened
  clear hB
  have cHA0 := HA.out.2.1
  have cHA1 := HA.out.2.2.1
  have cHA20 := HA2.out.2.1
  have cHA21 := HA2.out.2.2.1
  go_wp2_with fail
  refine (vrank_calls (s2, V2) _ _ _ HX2.out).mono ?_
  rintro e W12 ⟨rfl, hB⟩
  clear cHA0 cHA1 cHA20 cHA21
  replace HA := Lib.hid (HA.out.below hB)
  replace HA2 := Lib.hid (HA2.out.below hB)
  replace HB := Lib.hid (HB.out.trans (hB.mono HB.out.size))
  replace HX := Lib.hid (HX.out.grow hB)
  replace HX2 := Lib.hid (HX2.out.grow hB)
  replace HT := Lib.hid (fun j hj => keep_below hB _ _ (HT.out j hj))
  replace HV1 := Lib.hid (HV1.out.below hB)
  rw [show ((s2, V2).1.length : Int) = (n2 : Int) by rw [← HN2.out]]
  clear hB
  by_cases hz : n2 = 0
  · subst hz
    have HTL := Lib.hid (show TX = List.replicate m 1 by rw [← HTX.out]; unfold tkX; rw [if_pos HN2.out, HME.out])
    have cHA0 := HA.out.2.1
    have cHA1 := HA.out.2.2.1
    have cHA20 := HA2.out.2.1
    have cHA21 := HA2.out.2.2.1
    obtain ⟨WL, hWL⟩ : ∃ xw9, W12.alloc (.cells #[.int .i64 1] 3) = xw9 := ⟨_, rfl⟩
    have hB : Below W12.heap.size W12 WL := by rw [← hWL]; exact below_new _ _
    have hNB : Slc WL (fun _ => True) (.slice (some ⟨W12.heap.size, 0, none⟩) 1 1) 1 [.int .i64 1] := by
      rw [← hWL]; exact (Slc.owned (World.ownsRow_lit (base := 0) (e := 3) (size := 1) W12 #[.int .i64 1] 1 (Nat.zero_le _) (by unfold maxLen; omega) rfl)).keep (Kept.refl _ _) (fun _ _ _ => trivial)
    clear cHA0 cHA1 cHA20 cHA21
    replace HA := Lib.hid (HA.out.below hB)
    replace HA2 := Lib.hid (HA2.out.below hB)
    replace HB := Lib.hid (HB.out.trans (hB.mono HB.out.size))
    replace HX := Lib.hid (HX.out.grow hB)
    replace HX2 := Lib.hid (HX2.out.grow hB)
    replace HT := Lib.hid (fun j hj => keep_below hB _ _ (HT.out j hj))
    replace HV1 := Lib.hid (HV1.out.below hB)
    have HNB := Lib.hid hNB
    clear hNB hB
    have cHA0 := HA.out.2.1
    have cHA1 := HA.out.2.2.1
    have cHA20 := HA2.out.2.1
    have cHA21 := HA2.out.2.2.1
    go_wp2_with fail
    clear hWL
    refine (srepeatJ_calls _ 1 m _ HNB.out (by rw [← HME.out]; exact HM.out)).mono ?_
    rintro e W13 ⟨v2, rfl, hv2, hB⟩
    clear cHA0 cHA1 cHA20 cHA21
    replace HA := Lib.hid (HA.out.below hB)
    replace HA2 := Lib.hid (HA2.out.below hB)
    replace HB := Lib.hid (HB.out.trans (hB.mono HB.out.size))
    replace HX := Lib.hid (HX.out.grow hB)
    replace HX2 := Lib.hid (HX2.out.grow hB)
    replace HT := Lib.hid (fun j hj => keep_below hB _ _ (HT.out j hj))
    replace HV1 := Lib.hid (HV1.out.below hB)
    have HV2 := Lib.hid (show Slc W13 (fun _ => True) v2 TX.length (ints TX) by rw [HTL.out, ints_rep20, List.length_replicate]; exact hv2.any)
    obtain ⟨qo, qc, rfl, _⟩ := HV2.out.opened
    clear hv2
    clear hB
    have HQL := Lib.hid (show TX.length = m by rw [HTL.out, List.length_replicate])
    rw [HQL.out] at HV2 ⊢
    have cHA0 := HA.out.2.1
    have cHA1 := HA.out.2.2.1
    have cHA20 := HA2.out.2.1
    have cHA21 := HA2.out.2.2.1
    have hle : ¬ (m : Int) < (m : Int) := by omega
    go_wp2_with fail
    go_ret3
    exact ⟨.slice vo m vc, .slice qo m qc, rfl, by rw [HME.out]; exact HV1.out, by rw [HQL.out]; exact HV2.out, HB.out⟩
  · have HTL := Lib.hid (show TX = s2 by rw [← HTX.out]; unfold tkX; rw [if_neg (by rw [HN2.out]; exact hz)])
    have hne0 : ((n2 : Int) == 0) = false := by simp; omega
    have hml : m ≤ n2 := by have := HL.out; rw [HTL.out, HN2.out, HME.out] at this; exact this
    have hle : ¬ (n2 : Int) < (m : Int) := by omega
    clear hz
    have cHA0 := HA.out.2.1
    have cHA1 := HA.out.2.2.1
    have cHA20 := HA2.out.2.1
    have cHA21 := HA2.out.2.2.1
    go_wp2_with fail
    go_ret3
    exact ⟨.slice vo m vc, .slice so2 n2 sc2, rfl, by rw [HME.out]; exact HV1.out, by rw [HTL.out]; exact HX2.out.1, HB.out⟩

set_option maxHeartbeats 8000000 in
theorem rstake_calls {ok ok2 : Nat → Prop} (sh u sh2 u2 : Value) (S A : List Int × VV) (cs s : List Int) (most : Int) (cn : Nat) (w : World) (h : IsArr w ok sh u S) (hok : S.2.ok) (hn : S.2.nm) (h2 : IsArr w ok2 sh2 u2 A) (hA : gA 40 A) (h0 : inE S = 0) (hcs : S.2.sq.whs = cs) (hse : tkX cs A.1 = s)
    (hlen : cs.length ≤ s.length) (h8 : s.length ≤ 8) (hs : ∀ x ∈ s, 0 ≤ x ∧ x ≤ 1048576) (hc : ∀ x ∈ cs, x.natAbs ≤ 1048576) (hm : most ≤ 1048576) (hpr : prodR (tkS cs s) most = ((cn : Int), 0))
    (hTA : ∀ k, k < s.length → (tkA cs s k).length ≤ 1048576 ∧ (tkA cs s k).length * (tkP cs s k).length ≤ 1048576 ∧ ∀ x ∈ tkA cs s k, -1 ≤ x ∧ x ≤ 1099511627776) (hAl : (tkA cs s s.length).length = cn) (hT : TabAt w) :
    Calls Tryz.prog 20 #[.agg #[sh, u], .agg #[sh2, u2], .int .i64 most] w (RsOr ok2 0 (tkS cs s, A.2.sel (tkA cs s s.length)) w) := by
  obtain ⟨so, sc, rfl, _⟩ := h.1.opened
  obtain ⟨so2, sc2, rfl, _⟩ := h2.1.opened
  obtain ⟨s1, V⟩ := S
  obtain ⟨s2, V2⟩ := A
  simp only at hok hn hcs hse h h2 ⊢
  have hsu := h.2.store
  have hsu2 := h2.2.store
  obtain ⟨n, hne⟩ : ∃ n, s1.length = n := ⟨_, rfl⟩
  obtain ⟨n2, hne2⟩ : ∃ n2, s2.length = n2 := ⟨_, rfl⟩
  have HOK := Lib.hid hok
  have HNM := Lib.hid hn
  have HN := Lib.hid hne
  have HN2 := Lib.hid hne2
  rw [hne, hne2]
  have HSL := Lib.hid (show IsArr w ok (.slice so n sc) u (s1, V) by rw [← hne]; exact h)
  have HSL2 := Lib.hid (show IsArr w ok2 (.slice so2 n2 sc2) u2 (s2, V2) by rw [← hne2]; exact h2)
  have HWH := Lib.hid hcs
  have HG := Lib.hid (show gV 39 V2 from gA_gV hA)
  have HSE := Lib.hid hse
  have HI0 := Lib.hid h0
  have HLEN := Lib.hid hlen
  have H8 := Lib.hid h8
  have HSB := Lib.hid hs
  have HCB := Lib.hid hc
  have HMO := Lib.hid hm
  have HPR := Lib.hid hpr
  have HTA := Lib.hid hTA
  have HTL := Lib.hid hAl
  obtain ⟨VA, hVA⟩ : ∃ VA, V2.sel (tkA cs s s.length) = VA := ⟨_, rfl⟩
  have HVA := Lib.hid hVA
  obtain ⟨ZS, hZS⟩ : ∃ ZS, tkS cs s = ZS := ⟨_, rfl⟩
  have HZS := Lib.hid hZS
  rw [hVA, hZS]
  obtain ⟨W1, hW1⟩ : ∃ W1, W1 = ((w.alloc (.cells #[.slice so n sc, u] 31)).alloc (.cells #[.slice so2 n2 sc2, u2] 31)).alloc (.cells #[.slice none 0 0, .nilIface] 31) := ⟨_, rfl⟩
  have HB := Lib.hid (show Below w.heap.size w W1 by rw [hW1]; exact ((below_new _ _).alloc (by simp) _).alloc (by simp; omega) _)
  have HA := Lib.hid (show At2 W1 w.heap.size (.slice so n sc) u by rw [hW1]; exact ((At2.new w _ _ _).below (below_new _ _)).below (below_new _ _))
  have HA2 := Lib.hid (show At2 W1 (w.heap.size + 1) (.slice so2 n2 sc2) u2 by rw [hW1]; have := (At2.new (w.alloc (.cells #[.slice so n sc, u] 31)) (.slice so2 n2 sc2) u2 31).below (below_new _ (.cells #[.slice none 0 0, .nilIface] 31)); simpa using this)
  have HR := Lib.hid (show At2 W1 (w.heap.size + 2) (.slice none 0 0) .nilIface by rw [hW1]; have := At2.new ((w.alloc (.cells #[.slice so n sc, u] 31)).alloc (.cells #[.slice so2 n2 sc2, u2] 31)) (.slice none 0 0) .nilIface 31; simpa using this)
  have HX := Lib.hid (show IsArr W1 (fun _ => True) (.slice so n sc) u (s1, V) from (HSL.out.wide (fun _ _ _ => trivial)).grow HB.out)
  have HX2 := Lib.hid (show IsArr W1 (fun b => ok2 b ∧ b < w.heap.size) (.slice so2 n2 sc2) u2 (s2, V2) from (HSL2.out.wide (fun b hb h => ⟨h, hb⟩)).grow HB.out)
  have HV2 := Lib.hid (show IsV W1 (fun b => ok2 b ∧ b < w.heap.size) u2 V2 from HX2.out.2)
  have HT := Lib.hid (show TabAt W1 from fun j hj => keep_below HB.out _ _ (hT j hj))
  have HW1 := Lib.hid (Below.refl W1.heap.size W1)
  have HWW := Lib.hid (show W1.heap.size = w.heap.size + 3 by rw [hW1]; simp)
  have hfold := hW1.symm
  clear h h2 hW1 hok hn hT hne hne2 hA h0 hcs hse hlen h8 hs hc hm hpr hTA hAl hVA hZS
  have cHA0 := HA.out.2.1
  have cHA1 := HA.out.2.2.1
  have cHA20 := HA2.out.2.1
  have cHA21 := HA2.out.2.2.1
  have cHR0 := HR.out.2.1
  have cHR1 := HR.out.2.2.1
  go_enter Tryz.func20, Tryz.ntmps20
  go_wp2_with fail
  clear hfold
  refine (rsalong_calls _ _ _ _ (s1, V) (s2, V2) _ HX.out HOK.out HNM.out HX2.out HI0.out (by rw [show (s1, V).2.sq.whs = cs from HWH.out, show tkX cs (s2, V2).1 = s from HSE.out]; exact HLEN.out) (by rw [show (s1, V).2.sq.whs = cs from HWH.out]; have := HLEN.out; have := H8.out; omega) HT.out).mono ?_
  rintro e W11 ⟨v1, v2, rfl, hv1, hv2, hB⟩
  clear cHA0 cHA1 cHA20 cHA21 cHR0 cHR1
  replace HA := Lib.hid (HA.out.below hB)
  replace HA2 := Lib.hid (HA2.out.below hB)
  replace HR := Lib.hid (HR.out.below hB)
  replace HB := Lib.hid (HB.out.trans (hB.mono HB.out.size))
  replace HW1 := Lib.hid (HW1.out.trans (hB.mono HW1.out.size))
  replace HX := Lib.hid (HX.out.grow hB)
  replace HX2 := Lib.hid (HX2.out.grow hB)
  replace HV2 := Lib.hid (HV2.out.grow hB)
  replace HT := Lib.hid (fun j hj => keep_below hB _ _ (HT.out j hj))
  rw [show (s1, V).2.sq.whs = cs from HWH.out] at hv1 hv2
  rw [show tkX cs (s2, V2).1 = s from HSE.out] at hv2
  have HQ1 := Lib.hid hv1
  have HQ2 := Lib.hid hv2
  clear hv1 hv2
  clear hB
  have cHA0 := HA.out.2.1
  have cHA1 := HA.out.2.2.1
  have cHA20 := HA2.out.2.1
  have cHA21 := HA2.out.2.2.1
  have cHR0 := HR.out.2.1
  have cHR1 := HR.out.2.2.1
  go_wp2_with fail
  have HBS := Lib.hid HW1.out.size
  have HVX := Lib.hid HV2.out
  refine (rstaken_calls _ _ _ cs s V2 most cn _ HQ1.out HQ2.out HV2.out HG.out HLEN.out H8.out HSB.out HCB.out HMO.out HPR.out HTA.out HTL.out HT.out).mono ?_
  rintro e W12 ⟨ro, rc, ru, rfl, hr, _, hB⟩
  clear cHA0 cHA1 cHA20 cHA21 cHR0 cHR1
  replace HA := Lib.hid (HA.out.below hB)
  replace HA2 := Lib.hid (HA2.out.below hB)
  replace HR := Lib.hid (HR.out.below hB)
  replace HB := Lib.hid (HB.out.trans (hB.mono HB.out.size))
  replace HW1 := Lib.hid (HW1.out.trans (hB.mono HW1.out.size))
  replace HX := Lib.hid (HX.out.grow hB)
  replace HX2 := Lib.hid (HX2.out.grow hB)
  replace HV2 := Lib.hid (HV2.out.grow hB)
  replace HT := Lib.hid (fun j hj => keep_below hB _ _ (HT.out j hj))
  replace HQ1 := Lib.hid (HQ1.out.below hB)
  replace HQ2 := Lib.hid (HQ2.out.below hB)
  rw [HZS.out, HVA.out] at hr
  obtain ⟨rl, rc⟩ := rc
  have HY := Lib.hid (show IsArr W12 (fun b => (ok2 b ∧ b < w.heap.size) ∨ w.heap.size + 3 ≤ b) (.slice ro rl rc) ru (ZS, VA) from (hr rfl).wide (fun b h1 h2 => by have := HBS.out; have := HWW.out; rcases h2 with ⟨h2, _⟩ | h2; exact Or.inl h2; exact Or.inr (by omega)))
  have hsn := (hr rfl).2.store
  clear hr
  clear hB
  have cHA0 := HA.out.2.1
  have cHA1 := HA.out.2.2.1
  have cHA20 := HA2.out.2.1
  have cHA21 := HA2.out.2.2.1
  have cHR0 := HR.out.2.1
  have cHR1 := HR.out.2.2.1
  have zHR0 := HR.out.2.2.2 0
  have zHR1 := HR.out.2.2.2 1
  go_wp2_with fail
  refine bodyPost_ret (v := .tuple #[.agg #[.slice ro rl rc, ru], .int .i64 0]) (by simp [results, Tryz.results20, go_sem, World.cell?_setCell_same, cHR0, cHR1]) rfl ⟨ro, (rl, rc), ru, rfl, fun _ => ?_, fun h => absurd rfl h, (HB.out.setCell (by show w.heap.size ≤ w.heap.size + 2; omega) _).setCell (by show w.heap.size ≤ w.heap.size + 2; omega) _⟩
  exact IsArr.keep (ok := fun b => (ok2 b ∧ b < w.heap.size) ∨ w.heap.size + 3 ≤ b) ((Kept.setCell _ _ _ (by rintro (⟨_, h⟩ | h) <;> simp at h <;> omega)).trans (Kept.setCell _ _ _ (by rintro (⟨_, h⟩ | h) <;> simp at h <;> omega))) (fun b _ h => h.imp id (fun h => by omega)) HY.out
end Go.Proofs.YtbfcdpabjailcaaGreatDoor

/- Layer 20's law, its parts: fine, shows. -/
namespace Go.Proofs.YtbfcdpabjailcaaGreatDoor
set_option maxRecDepth 100000
open Go.RowKit Fl
set_option linter.unusedVariables false

def FineIs (p : PA) (w : World) (e : Ending) (w' : World) : Prop := ∃ g : Bool, e = .returned (.bool g) ∧ (g = true → chk 40 p = 0 ∧ p.s.length ≤ 8) ∧ Below w.heap.size w w'
set_option maxHeartbeats 4000000 in
theorem fine20_calls (ok : Nat → Prop) (p : PA) (u : Value) (n : Nat) (w : World) (hl : lo n p) (hp : IsP w ok u p) :
    Calls Tryz.prog 4 #[u] w (FineIs p w) := by
  have HP := Lib.hid hp
  have HL := Lib.hid hl
  obtain ⟨so, sc, io, ic, rfl, hs, hit⟩ := hp.opened
  obtain ⟨W1, hW1⟩ : ∃ W1, W1 = w.alloc (.cells #[.slice so p.s.length sc, .slice io p.l.length ic, .int .i64 p.f] 25) := ⟨_, rfl⟩
  have HB := Lib.hid (show Below w.heap.size w W1 by rw [hW1]; exact below_new _ _)
  have HA := Lib.hid (show At3 W1 w.heap.size (.slice so p.s.length sc) (.slice io p.l.length ic) (.int .i64 p.f) by rw [hW1]; exact At3.new w _ _ _ _)
  have HI := Lib.hid (show IsP W1 ok _ p from HP.out.grow HB.out)
  have hfold := hW1.symm
  obtain ⟨cc, hcc⟩ : ∃ cc, cc = chk 40 p := ⟨_, rfl⟩
  have HCC := Lib.hid hcc
  clear hs hit hp hl hW1 hcc
  have cHA0 := HA.out.2.1
  have cHA1 := HA.out.2.2.1
  have cHA2 := HA.out.2.2.2.1
  go_enter Tryz.func4, Tryz.ntmps4
  go_wp2_with fail
  clear hfold
  refine (pcount_calls n _ p _ _ _ HL.out HI.out).mono ?_
  rintro e W11 ⟨cn, rfl, hB⟩
  clear cHA0 cHA1 cHA2
  replace HA := Lib.hid (HA.out.below hB)
  replace HB := Lib.hid (HB.out.trans (hB.mono HB.out.size))
  replace HI := Lib.hid (HI.out.grow hB)
  clear hB
  have cHA0 := HA.out.2.1
  have cHA1 := HA.out.2.2.1
  have cHA2 := HA.out.2.2.2.1
  by_cases hcn : cn ≤ 1500
  · by_cases hln : p.s.length ≤ 8
    · have hli : (p.s.length : Int) ≤ 8 := by omega
      have HLN := Lib.hid hln
      go_wp2_with fail
      refine (vCheck_calls _ p _ n _ HL.out HI.out).mono ?_
      rintro e W12 ⟨rfl, hB⟩
      clear cHA0 cHA1 cHA2
      replace HA := Lib.hid (HA.out.below hB)
      replace HB := Lib.hid (HB.out.trans (hB.mono HB.out.size))
      replace HI := Lib.hid (HI.out.grow hB)
      rw [← HCC.out]
      clear hB
      have cHA0 := HA.out.2.1
      have cHA1 := HA.out.2.2.1
      have cHA2 := HA.out.2.2.2.1
      by_cases hc0 : cc = 0
      · have HC0 := Lib.hid hc0
        have hce : (cc == 0) = true := by simpa using hc0
        clear hc0
        go_wp2_with fail
        go_ret
        exact ⟨true, rfl, (fun h => by exact ⟨HCC.out ▸ HC0.out, HLN.out⟩), HB.out⟩
      · have HC0 := Lib.hid hc0
        have hce : (cc == 0) = false := by simpa using hc0
        clear hc0
        go_wp2_with fail
        go_ret
        exact ⟨false, rfl, (fun h => by cases h), HB.out⟩
    · have hli : ¬ ((p.s.length : Int) ≤ 8) := by omega
      go_wp2_with fail
      go_ret
      exact ⟨false, rfl, (fun h => by cases h), HB.out⟩
  · go_wp2_with fail
    go_ret
    exact ⟨false, rfl, (fun h => by cases h), HB.out⟩

set_option maxHeartbeats 4000000 in
theorem shows20_calls {ok ok2 : Nat → Prop} (sh u : Value) (A : List Int × VV) (P : PA) (v : Value) (w : World) (hA : IsArr w ok sh u A) (hg : gA 40 A) (hP : IsP w ok2 v P) (he : plA 40 A = P) (hT : TabAt w) :
    Calls Tryz.prog 8 #[.agg #[sh, u], .int .i64 0, v, .int .i64 0] w (BoolIs true w) := by
  have hsu := hA.2.store
  obtain ⟨ho, hc, rfl, _⟩ := hA.1.opened
  obtain ⟨so, sc, io, ic, rfl, _, _⟩ := hP.opened
  obtain ⟨W1, hW1⟩ : ∃ W1, W1 = (w.alloc (.cells #[.slice ho A.1.length hc, u] 31)).alloc (.cells #[.slice so P.s.length sc, .slice io P.l.length ic, .int .i64 P.f] 25) := ⟨_, rfl⟩
  have HB := Lib.hid (show Below w.heap.size w W1 by rw [hW1]; exact (below_new _ _).alloc (by simp) _)
  have HAC := Lib.hid (show At2 W1 w.heap.size (.slice ho A.1.length hc) u by rw [hW1]; exact (At2.new w _ _ _).below (below_new _ _))
  have HPC := Lib.hid (show At3 W1 (w.heap.size + 1) (.slice so P.s.length sc) (.slice io P.l.length ic) (.int .i64 P.f) by rw [hW1]; have := At3.new (w.alloc (.cells #[.slice ho A.1.length hc, u] 31)) (.slice so P.s.length sc) (.slice io P.l.length ic) (.int .i64 P.f) 25; simpa using this)
  have HA := Lib.hid (show IsArr W1 (fun _ => True) _ u A from ⟨(hA.1.below HB.out).any, IsV.any (hA.2.grow HB.out)⟩)
  have HP := Lib.hid (show IsP W1 (fun _ => True) _ P from (hP.grow HB.out).wide (fun _ _ _ => trivial))
  have HT := Lib.hid (show TabAt W1 from fun j hj => keep_below HB.out _ _ (hT j hj))
  have HG := Lib.hid hg
  have HE := Lib.hid he
  have HNI := Lib.hid (show nice 40 P by rw [← he]; exact nice_plA 40 _ hg)
  have hfold := hW1.symm
  clear hA hP hT hg he hW1
  have cHAC0 := HAC.out.2.1
  have cHAC1 := HAC.out.2.2.1
  have cHPC0 := HPC.out.2.1
  have cHPC1 := HPC.out.2.2.1
  have cHPC2 := HPC.out.2.2.2.1
  go_enter Tryz.func8, Tryz.ntmps8
  go_wp2_with fail
  clear hfold
  clear cHAC0 cHAC1 cHPC0 cHPC1 cHPC2
  obtain ⟨W11, hWD⟩ : ∃ xw9, W1.drew = xw9 := ⟨_, rfl⟩
  have hB : Below W1.heap.size W1 W11 := by rw [← hWD]; exact Below.drewN' (Below.refl _ _) 1
  replace HAC := Lib.hid (HAC.out.below hB)
  replace HPC := Lib.hid (HPC.out.below hB)
  replace HB := Lib.hid (HB.out.trans (hB.mono HB.out.size))
  replace HA := Lib.hid (HA.out.grow hB)
  replace HP := Lib.hid (HP.out.grow hB)
  replace HT := Lib.hid (fun j hj => keep_below hB _ _ (HT.out j hj))
  clear hB
  refine wp_region_held_drew (S := fun w' => w'.cell? ⟨w.heap.size, 0, none⟩ = some (.slice ho A.1.length hc) ∧ w'.cell? ⟨w.heap.size, 1, none⟩ = some (u) ∧ w'.cell? ⟨(w.heap.size + 1), 0, none⟩ = some (.slice so P.s.length sc) ∧ w'.cell? ⟨(w.heap.size + 1), 1, none⟩ = some (.slice io P.l.length ic) ∧ w'.cell? ⟨(w.heap.size + 1), 2, none⟩ = some (.int .i64 P.f)) (by kernel_rfl) (by rw [hWD]; exact ⟨HAC.out.2.1, HAC.out.2.2.1, HPC.out.2.1, HPC.out.2.2.1, HPC.out.2.2.2.1⟩) (fun hHeld => ?_)
  rw [hWD] at hHeld ⊢
  clear hWD
  refine wpAnyH_take (i := 0) (v := ?_) rfl (by kernel_rfl) (by kernel_rfl) (by kernel_rfl) (fun _ _ _ h => h) (Or.inl ⟨by rfl, ?_⟩) (by assumption) ?_
  rotate_left
  · (intro w hSw; (try dsimp only at hSw); go_simp; try with_reducible rfl)
  simp only [Act.put, List.getElem_toArray, List.getElem_cons_zero, List.setIfInBounds_toArray, List.set_cons_zero, List.set_cons_succ]
  refine wpAnyH_ready (rs := [1]) (by kernel_rfl) (by simp) ?_
  refine AllReadyH.cons (o := _) rfl (fun K hK => ?_) ?_
  · clear hHeld
    go_simp
    refine (good_calls A _ _ _ HG.out HA.out HT.out).mono ?_
    rintro e W12 ⟨rfl, hB⟩
    replace HAC := Lib.hid (HAC.out.below hB)
    replace HPC := Lib.hid (HPC.out.below hB)
    replace HB := Lib.hid (HB.out.trans (hB.mono HB.out.size))
    replace HA := Lib.hid (HA.out.grow hB)
    replace HP := Lib.hid (HP.out.grow hB)
    replace HT := Lib.hid (fun j hj => keep_below hB _ _ (HT.out j hj))
    clear hB
    refine hK.out _ _ ?_ (fun hHeld => ?_)
    · exact ⟨HAC.out.2.1, HAC.out.2.2.1, HPC.out.2.1, HPC.out.2.2.1, HPC.out.2.2.2.1⟩
    clear hK K
    refine wpAnyH_take (i := 2) (v := ?_) rfl (by kernel_rfl) (by kernel_rfl) (by kernel_rfl) (fun _ _ _ h => h) (Or.inl ⟨by rfl, ?_⟩) (by assumption) ?_
    rotate_left
    · (intro w hSw; (try dsimp only at hSw); go_simp; try with_reducible rfl)
    simp only [Act.put, List.getElem_toArray, List.getElem_cons_succ, List.getElem_cons_zero, List.setIfInBounds_toArray, List.set_cons_zero, List.set_cons_succ]
    refine wpAnyH_take (i := 3) (v := ?_) rfl (by kernel_rfl) (by kernel_rfl) (by kernel_rfl) (fun _ _ _ h => h) (Or.inl ⟨by rfl, ?_⟩) (by assumption) ?_
    rotate_left
    · (intro w hSw; (try dsimp only at hSw); go_simp; try with_reducible rfl)
    simp only [Act.put, List.getElem_toArray, List.getElem_cons_succ, List.getElem_cons_zero, List.setIfInBounds_toArray, List.set_cons_zero, List.set_cons_succ]
    refine wpAnyH_take (i := 5) (v := ?_) rfl (by kernel_rfl) (by kernel_rfl) (by kernel_rfl) (fun _ _ _ h => h) (Or.inl ⟨by rfl, ?_⟩) (by assumption) ?_
    rotate_left
    · (intro w hSw; (try dsimp only at hSw); go_simp; try with_reducible rfl)
    simp only [Act.put, List.getElem_toArray, List.getElem_cons_succ, List.getElem_cons_zero, List.setIfInBounds_toArray, List.set_cons_zero, List.set_cons_succ]
    refine wpAnyH_ready (rs := [4]) (by kernel_rfl) (by simp) ?_
    refine AllReadyH.cons (o := _) rfl (fun K hK => ?_) ?_
    · clear hHeld
      go_simp
      refine (plain_calls_at 40 (fun _ => True) A _ _ _ (gA_dA HG.out) HA.out).mono ?_
      rintro e W13 ⟨up, rfl, hup, hB⟩
      replace HAC := Lib.hid (HAC.out.below hB)
      replace HPC := Lib.hid (HPC.out.below hB)
      replace HB := Lib.hid (HB.out.trans (hB.mono HB.out.size))
      replace HA := Lib.hid (HA.out.grow hB)
      replace HP := Lib.hid (HP.out.grow hB)
      replace HT := Lib.hid (fun j hj => keep_below hB _ _ (HT.out j hj))
      rw [HE.out] at hup
      have HUP := Lib.hid hup
      obtain ⟨uso, usc, uio, uic, rfl, _⟩ := hup.opened
      clear hup
      clear hB
      refine hK.out _ _ ?_ (fun hHeld => ?_)
      · exact ⟨HAC.out.2.1, HAC.out.2.2.1, HPC.out.2.1, HPC.out.2.2.1, HPC.out.2.2.2.1⟩
      clear hK K
      refine wpAnyH_ready (rs := [6]) (by kernel_rfl) (by simp) ?_
      refine AllReadyH.cons (o := _) rfl (fun K hK => ?_) ?_
      · clear hHeld
        go_simp
        refine (psame_calls 40 _ _ P P _ _ 40 _ HNI.out HNI.out HUP.out HP.out).mono ?_
        rintro e W14 ⟨rfl, hB⟩
        replace HAC := Lib.hid (HAC.out.below hB)
        replace HPC := Lib.hid (HPC.out.below hB)
        replace HB := Lib.hid (HB.out.trans (hB.mono HB.out.size))
        replace HA := Lib.hid (HA.out.grow hB)
        replace HP := Lib.hid (HP.out.grow hB)
        replace HT := Lib.hid (fun j hj => keep_below hB _ _ (HT.out j hj))
        replace HUP := Lib.hid (HUP.out.grow hB)
        rw [pq_yes rfl]
        clear hB
        refine hK.out _ _ ?_ (fun hHeld => ?_)
        · exact ⟨HAC.out.2.1, HAC.out.2.2.1, HPC.out.2.1, HPC.out.2.2.1, HPC.out.2.2.2.1⟩
        clear hK K
        refine wpAnyH_take (i := 7) (v := ?_) rfl (by kernel_rfl) (by kernel_rfl) (by kernel_rfl) (fun _ _ _ h => h) (Or.inl ⟨by rfl, ?_⟩) (by assumption) ?_
        rotate_left
        · (intro w hSw; (try dsimp only at hSw); go_simp; try with_reducible rfl)
        simp only [Act.put, List.getElem_toArray, List.getElem_cons_succ, List.getElem_cons_zero, List.setIfInBounds_toArray, List.set_cons_zero, List.set_cons_succ]
        refine wpAnyH_take (i := 8) (v := ?_) rfl (by kernel_rfl) (by kernel_rfl) (by kernel_rfl) (fun _ _ _ h => h) (Or.inl ⟨by rfl, ?_⟩) (by assumption) ?_
        rotate_left
        · (intro w hSw; (try dsimp only at hSw); go_simp; try with_reducible rfl)
        simp only [Act.put, List.getElem_toArray, List.getElem_cons_succ, List.getElem_cons_zero, List.setIfInBounds_toArray, List.set_cons_zero, List.set_cons_succ]
        refine wpAnyH_done (by kernel_rfl) ?_ _
        clear hHeld
        have cHAC0 := HAC.out.2.1
        have cHAC1 := HAC.out.2.2.1
        have cHPC0 := HPC.out.2.1
        have cHPC1 := HPC.out.2.2.1
        have cHPC2 := HPC.out.2.2.2.1
        go_wp2_with fail
        go_ret
        exact ⟨rfl, HB.out⟩
      exact AllReadyH.nil
    exact AllReadyH.nil
  exact AllReadyH.nil
end Go.Proofs.YtbfcdpabjailcaaGreatDoor

/- Layer 20: what package reshape tells of the laws' arrays. -/
namespace Go.Proofs.YtbfcdpabjailcaaGreatDoor
set_option maxRecDepth 100000
open Go.RowKit Fl
set_option linter.unusedVariables false

theorem its_sq20 {V : VV} {l : List Nat} (h : V.cls = 0) (e : V.nums = l) : itsA 39 V = l.map numI := by
  apply List.ext_getElem?
  intro i
  have hl : V.nums.length = V.len := VV.nums_length h
  by_cases hi : i < V.len
  · rw [itsA_get hi, ← e, List.getElem?_map, List.getElem?_eq_getElem (by omega)]
    unfold itA
    rw [if_neg (by omega), if_neg (by omega), atI_nat (by omega)]
    rfl
  · rw [List.getElem?_eq_none (by rw [itsA_len]; omega), List.getElem?_eq_none (by rw [List.length_map, ← e]; omega)]
theorem plA_nums20 {l : List Nat} (s : List Int) (hl : l.length ≤ 1048576) (hN : ∀ x ∈ l, Num x) : plA 40 (s, sqL l) = .mk s (l.map numI) 0 := by
  obtain ⟨h1, h2, h3, h4, h5, h6, h7⟩ := sqL_spec hl hN
  show PA.mk s (itsA 39 (sqL l)) (sqL l).cls = _
  rw [its_sq20 h4 h1, h4]
theorem boxs_none20 {A : VV} (h : A.cls < 2) : A.boxs = [] := by cases A <;> first | rfl | (simp [VV.cls] at h)
theorem gA_nums20 {l : List Nat} {s : List Int} (hl : l.length ≤ 1048576) (hN : ∀ x ∈ l, Num x) (hp : prodR s 1048576 = ((l.length : Int), 0)) : gA 40 (s, sqL l) := by
  obtain ⟨h1, h2, h3, h4, h5, h6, h7⟩ := sqL_spec hl hN
  refine ⟨by rw [h7]; exact hp, h2, h3, h6, fun a ha => ?_⟩
  rw [boxs_none20 (show (sqL l).cls < 2 by omega)] at ha; cases ha
/-- The examples' arrays. -/
def aw20S : List Nat := [4611686018427387904, 4611686018427387904]
def aw20A : List Nat := [4607182418800017408, 4611686018427387904, 4613937818241073152]
def aw20R : List Nat := [4607182418800017408, 4611686018427387904, 4613937818241073152, 4607182418800017408]
def aw20B : List Nat := [4619567317775286272, 4620693217682128896]
def aw20T : List Nat := [0, 4619567317775286272, 4620693217682128896]
def aw20N : Nat := 13837309855095848960
theorem aw20_num : ∀ x ∈ [4611686018427387904, 4607182418800017408, 4613937818241073152, 4619567317775286272, 4620693217682128896, 0, 13837309855095848960], Num x := by
  intro x hx
  simp only [List.mem_cons, List.not_mem_nil, or_false] at hx
  rcases hx with rfl | rfl | rfl | rfl | rfl | rfl | rfl <;> exact ⟨⟨by decide, by decide⟩, by decide +kernel⟩
theorem aw20_S : ∀ x ∈ aw20S, Num x := fun x hx => aw20_num x (by unfold aw20S at hx; simp at hx ⊢; omega)
theorem aw20_A : ∀ x ∈ aw20A, Num x := fun x hx => aw20_num x (by unfold aw20A at hx; simp at hx ⊢; omega)
theorem aw20_R : ∀ x ∈ aw20R, Num x := fun x hx => aw20_num x (by unfold aw20R at hx; simp at hx ⊢; omega)
theorem aw20_B : ∀ x ∈ aw20B, Num x := fun x hx => aw20_num x (by unfold aw20B at hx; simp at hx ⊢; omega)
theorem aw20_T : ∀ x ∈ aw20T, Num x := fun x hx => aw20_num x (by unfold aw20T at hx; simp at hx ⊢; omega)
theorem aw20_N : ∀ x ∈ [aw20N], Num x := fun x hx => aw20_num x (by unfold aw20N at hx; simp at hx ⊢; omega)
theorem sel20 {l : List Nat} {at_ : List Int} (hl : l.length ≤ 1048576) (hN : ∀ x ∈ l, Num x) (hm : at_.length ≤ 1048576) : (sqL l).sel at_ = sqL (at_.map (atI l 0)) := by
  obtain ⟨h1, h2, h3, h4, h5, h6, h7⟩ := sqL_spec hl hN
  have hg : gV 39 (sqL l) := ⟨h2, h3, h6, fun a ha => by rw [boxs_none20 (show (sqL l).cls < 2 by omega)] at ha; cases ha⟩
  have hs := gV_sel hg hm
  have hn := VV.sel_numbers at_ (VV.nums_num h2 h3) hm h4
  rw [h1] at hn
  rw [← hn]
  exact VV.canon hs.1 hs.2.1 (by rw [VV.sel_cls _ _ (VV.nums_num h2 h3) hm, h4]) hs.2.2.1 (VV.kind_pos hs.2.2.1)
theorem whs20 {l : List Nat} {z : List Int} (hl : l.length ≤ 1048576) (hN : ∀ x ∈ l, Num x) (h : ∀ x ∈ l, ∃ n, Wh x n) (e : l.map wnOf = z) : (sqL l).sq.isWh = true ∧ (sqL l).sq.whs = z := by
  obtain ⟨h1, h2, h3, h4, h5, h6, h7⟩ := sqL_spec hl hN
  rw [tight_sq h6]
  obtain ⟨a, b, _⟩ := sq_yes hl hN h
  exact ⟨a, b.trans e⟩
theorem aw20_wh : Wh 4611686018427387904 2 ∧ Wh aw20N (-3) := ⟨wh_ofInt (by decide) (by decide +kernel), wh_ofInt (by decide) (by decide +kernel)⟩
theorem rsreshape_aw {ok ok2 : Nat → Prop} (sh u sh2 u2 : Value) (w : World) (h : IsArr w ok sh u ([2], sqL aw20S)) (h2 : IsArr w ok2 sh2 u2 ([3], sqL aw20A)) (hT : TabAt w) :
    Calls Tryz.prog 18 #[.agg #[sh, u], .agg #[sh2, u2], .int .i64 99] w fun e w' => ∃ so sc u', e = .returned (.tuple #[.agg #[.slice so 2 sc, u'], .int .i64 0]) ∧ IsArr w' (fun _ => True) (.slice so 2 sc) u' ([2, 2], sqL aw20R) ∧ Below w.heap.size w w' := by
  obtain ⟨s1, s2, s3, s4, s5, s6, s7⟩ := sqL_spec (l := aw20S) (by decide) aw20_S
  obtain ⟨q1, q2⟩ := whs20 (l := aw20S) (z := [2, 2]) (by decide) aw20_S (fun x hx => by simp [aw20S] at hx; subst hx; exact ⟨2, aw20_wh.1⟩) (by simp [aw20S, wnOf_wh aw20_wh.1])
  have hi : inE ([2], sqL aw20S) = 0 := by unfold inE; rw [if_neg (by simp), if_neg (by rw [q1]; simp)]
  have hL : rsL ([2], sqL aw20S) = [2, 2] := by unfold rsL; rw [q2]; decide
  have hE : rsE ([2], sqL aw20S) 99 = 0 := by unfold rsE; rw [hi, if_neg (by simp), hL]; decide
  have hlen : (sqL aw20A).len = 3 := (sqL_spec (l := aw20A) (by decide) aw20_A).2.2.2.2.2.2
  have hV : rsV ([2], sqL aw20S) ([3], sqL aw20A) 99 = sqL aw20R := by
    unfold rsV
    rw [hL, show (prodR [2, 2] 99).1.toNat = 4 by decide, hlen, sel20 (by decide) aw20_A (by decide)]
    rfl
  refine (rsreshape_calls sh u sh2 u2 ([2], sqL aw20S) ([3], sqL aw20A) 99 w h s2 s3 h2 (gA_nums20 (by decide) aw20_A (by decide)) (by decide) hT).mono ?_
  rintro e w' ⟨so, ⟨x, y⟩, u', rfl, h1, _, hB⟩
  rw [hE] at h1 ⊢
  rw [hL, hV] at h1
  have h9 := h1 rfl
  obtain ⟨so', cap, e1, _⟩ := h9.1.opened
  cases e1
  exact ⟨so, y, u', rfl, h9.wide (fun _ _ _ => trivial), hB⟩
theorem rstake_aw {ok ok2 : Nat → Prop} (sh u sh2 u2 : Value) (w : World) (h : IsArr w ok sh u ([], sqL [aw20N])) (h2 : IsArr w ok2 sh2 u2 ([2], sqL aw20B)) (hT : TabAt w) :
    Calls Tryz.prog 20 #[.agg #[sh, u], .agg #[sh2, u2], .int .i64 99] w fun e w' => ∃ so sc u', e = .returned (.tuple #[.agg #[.slice so 1 sc, u'], .int .i64 0]) ∧ IsArr w' (fun _ => True) (.slice so 1 sc) u' ([3], sqL aw20T) ∧ Below w.heap.size w w' := by
  obtain ⟨s1, s2, s3, s4, s5, s6, s7⟩ := sqL_spec (l := [aw20N]) (by decide) aw20_N
  obtain ⟨q1, q2⟩ := whs20 (l := [aw20N]) (z := [-3]) (by decide) aw20_N (fun x hx => by simp at hx; subst hx; exact ⟨-3, aw20_wh.2⟩) (by simp [wnOf_wh aw20_wh.2])
  have hi : inE ([], sqL [aw20N]) = 0 := by unfold inE; rw [if_neg (by simp), if_neg (by rw [q1]; simp)]
  have hV : (sqL aw20B).sel (tkA [-3] [2] 1) = sqL aw20T := by
    rw [sel20 (by decide) aw20_B (by decide)]
    rfl
  refine (rstake_calls sh u sh2 u2 ([], sqL [aw20N]) ([2], sqL aw20B) [-3] [2] 99 3 w h s2 s3 h2 (gA_nums20 (by decide) aw20_B (by decide)) hi q2 (by rfl) (by decide) (by decide) (by decide) (by decide) (by decide) (by decide) ?_ (by decide) hT).mono ?_
  · intro k hk
    obtain rfl : k = 0 := by simp at hk; omega
    exact ⟨by decide, by decide, by decide⟩
  rintro e w' ⟨so, ⟨x, y⟩, u', rfl, h1, _, hB⟩
  have h9 := h1 rfl
  rw [show tkS [-3] [2] = [3] by decide, show ([2] : List Int).length = 1 from rfl, hV] at h9
  obtain ⟨so', cap, e1, _⟩ := h9.1.opened
  cases e1
  exact ⟨so, y, u', rfl, h9.wide (fun _ _ _ => trivial), hB⟩
end Go.Proofs.YtbfcdpabjailcaaGreatDoor

/- Layer 20's law: plain facts, awake. Written by tools/gen_rsh.py. -/
namespace Go.Proofs.YtbfcdpabjailcaaGreatDoor
set_option maxRecDepth 100000
open Go.RowKit Fl
set_option linter.unusedVariables false

theorem arrP_nums20 {l : List Nat} {s : List Int} (hN : ∀ x ∈ l, Num x) : arrP 40 (.mk s (l.map numI) 0) = (s, sqL l) := by
  rw [show (40 : Nat) = 39 + 1 from rfl, arrP_zero rfl]
  show (s, numsV (l.map numI)) = _
  unfold numsV sqL
  rw [show (l.map numI).map (fun x : PI => x.2.1) = l by rw [List.map_map, show ((fun x : PI => x.2.1) ∘ numI) = id from rfl, List.map_id], map_ze hN]
theorem lo_nums20 {l : List Nat} {s : List Int} (hN : ∀ x ∈ l, Num x) : lo 1 (.mk s (l.map numI) 0) := by
  intro x hx
  obtain ⟨y, hy, rfl⟩ := List.mem_map.1 hx
  exact ⟨(hN y hy).1.1, fun q hq => by cases hq⟩
/-- The law's own way from a plain array of numbers to one. -/
theorem of20_calls {ok : Nat → Prop} (s : List Int) (l : List Nat) (u : Value) (w : World) (hp : IsP w ok u (.mk s (l.map numI) 0)) (hN : ∀ x ∈ l, Num x) (hc : chk 40 (.mk s (l.map numI) 0) = 0) (hT : TabAt w) :
    Calls Tryz.prog 6 #[u] w (ArrIs (s, sqL l) w) := by
  refine (lof_calls ok _ u 1 w (lo_nums20 hN) hp hT hc).mono ?_
  rintro e w' ⟨so, sc, u', rfl, h, hB⟩
  rw [arrP_nums20 hN] at h ⊢
  exact ⟨so, sc, u', rfl, h.wide (fun _ _ _ => trivial), hB⟩

set_option maxHeartbeats 8000000 in
theorem awake20_calls (w : World) (hT : TabAt w) : Calls Tryz.prog 5 #[] w (BoolIs true w) := by
  obtain ⟨W1, hW1⟩ : ∃ W1, W1 = w.alloc (.cells #[.float .f64 4611686018427387904, .float .f64 4611686018427387904] 38) := ⟨_, rfl⟩
  have HB := Lib.hid (show Below w.heap.size w W1 by rw [hW1]; exact below_new _ _)
  have HV := Lib.hid (show Slc W1 (fun _ => True) (.slice (some ⟨w.heap.size, 0, none⟩) 2 2) aw20S.length (f64s aw20S) by
    rw [hW1]; exact (Slc.owned (World.ownsRow_lit (base := 0) (e := 38) (size := 1) w #[.float .f64 4611686018427387904, .float .f64 4611686018427387904] 2 (Nat.zero_le _) (by unfold maxLen; omega) rfl)).keep (Kept.refl _ _) (fun _ _ _ => trivial))
  have HT := Lib.hid (show TabAt W1 from fun j hj => keep_below HB.out _ _ (hT j hj))
  have hfold := hW1.symm
  clear hW1 hT
  go_enter Tryz.func5, Tryz.ntmps5
  go_wp2_with fail
  clear hfold
  refine (rNums_calls _ aw20S _ HV.out (by decide)).mono ?_
  rintro e W11 ⟨us, rfl, hus, hB⟩
  replace HB := Lib.hid (HB.out.trans (hB.mono HB.out.size))
  replace HV := Lib.hid (HV.out.below hB)
  replace HT := Lib.hid (fun j hj => keep_below hB _ _ (HT.out j hj))
  have HP1 := Lib.hid hus
  clear hus
  clear hB
  go_wp2_with fail
  refine (of20_calls [2] aw20S _ _ HP1.out aw20_S (by decide +kernel) HT.out).mono ?_
  rintro e W12 ⟨u1s, u1c, u1, rfl, hu1, hB⟩
  replace HB := Lib.hid (HB.out.trans (hB.mono HB.out.size))
  replace HT := Lib.hid (fun j hj => keep_below hB _ _ (HT.out j hj))
  replace HP1 := Lib.hid (HP1.out.grow hB)
  have HX1 := Lib.hid hu1
  have hsu1 := hu1.2.store
  clear hu1
  clear hB
  go_wp2_with fail
  obtain ⟨W13, hWn⟩ : ∃ xw9, W12.alloc (.cells #[.float .f64 4607182418800017408, .float .f64 4611686018427387904, .float .f64 4613937818241073152] 38) = xw9 := ⟨_, rfl⟩
  have hB : Below W12.heap.size W12 W13 := by rw [← hWn]; exact below_new _ _
  have hNB : Slc W13 (fun _ => True) (.slice (some ⟨W12.heap.size, 0, none⟩) 3 3) aw20A.length (f64s aw20A) := by
    rw [← hWn]; exact (Slc.owned (World.ownsRow_lit (base := 0) (e := 38) (size := 1) W12 #[.float .f64 4607182418800017408, .float .f64 4611686018427387904, .float .f64 4613937818241073152] 3 (Nat.zero_le _) (by unfold maxLen; omega) rfl)).keep (Kept.refl _ _) (fun _ _ _ => trivial)
  rw [hWn]
  clear hWn
  replace HB := Lib.hid (HB.out.trans (hB.mono HB.out.size))
  replace HT := Lib.hid (fun j hj => keep_below hB _ _ (HT.out j hj))
  replace HX1 := Lib.hid (HX1.out.grow hB)
  have HV2 := Lib.hid hNB
  clear hNB hB
  refine (rNums_calls _ aw20A _ HV2.out (by decide)).mono ?_
  rintro e W14 ⟨ut, rfl, hut, hB⟩
  replace HB := Lib.hid (HB.out.trans (hB.mono HB.out.size))
  replace HT := Lib.hid (fun j hj => keep_below hB _ _ (HT.out j hj))
  replace HX1 := Lib.hid (HX1.out.grow hB)
  replace HV2 := Lib.hid (HV2.out.below hB)
  have HP2 := Lib.hid hut
  clear hut
  clear hB
  go_wp2_with fail
  refine (of20_calls [3] aw20A _ _ HP2.out aw20_A (by decide +kernel) HT.out).mono ?_
  rintro e W15 ⟨u2s, u2c, u2, rfl, hu2, hB⟩
  replace HB := Lib.hid (HB.out.trans (hB.mono HB.out.size))
  replace HT := Lib.hid (fun j hj => keep_below hB _ _ (HT.out j hj))
  replace HX1 := Lib.hid (HX1.out.grow hB)
  replace HP2 := Lib.hid (HP2.out.grow hB)
  have HX2 := Lib.hid hu2
  have hsu2 := hu2.2.store
  clear hu2
  clear hB
  go_wp2_with fail
  refine (rsreshape_aw _ u1 _ u2 _ HX1.out HX2.out HT.out).mono ?_
  rintro e W16 ⟨rs, rc, ur, rfl, hur, hB⟩
  replace HB := Lib.hid (HB.out.trans (hB.mono HB.out.size))
  replace HT := Lib.hid (fun j hj => keep_below hB _ _ (HT.out j hj))
  replace HX1 := Lib.hid (HX1.out.grow hB)
  replace HX2 := Lib.hid (HX2.out.grow hB)
  have HR := Lib.hid hur
  have hsur := hur.2.store
  clear hur
  clear hB
  obtain ⟨W17, hWn⟩ : ∃ xw9, W16.alloc (.cells #[.slice rs 2 rc, ur] 31) = xw9 := ⟨_, rfl⟩
  have hB : Below W16.heap.size W16 W17 := by rw [← hWn]; exact below_new _ _
  have hNB : At2 W17 W16.heap.size (.slice rs 2 rc) (ur) := by rw [← hWn]; exact At2.new _ _ _ _
  replace HB := Lib.hid (HB.out.trans (hB.mono HB.out.size))
  replace HT := Lib.hid (fun j hj => keep_below hB _ _ (HT.out j hj))
  replace HR := Lib.hid (HR.out.grow hB)
  have HRV := Lib.hid hNB
  clear hNB hB
  have cHRV0 := HRV.out.2.1
  have cHRV1 := HRV.out.2.2.1
  go_wp2_with fail
  clear hWn
  refine (rNum_calls aw20N _).mono ?_
  rintro e W18 ⟨uv, rfl, huv, hB⟩
  clear cHRV0 cHRV1
  replace HB := Lib.hid (HB.out.trans (hB.mono HB.out.size))
  replace HT := Lib.hid (fun j hj => keep_below hB _ _ (HT.out j hj))
  replace HR := Lib.hid (HR.out.grow hB)
  replace HRV := Lib.hid (HRV.out.below hB)
  have HP3 := Lib.hid (show IsP W18 (fun _ => True) uv (.mk [] ([aw20N].map numI) 0) from huv.wide (fun _ _ _ => trivial))
  clear huv
  clear hB
  have cHRV0 := HRV.out.2.1
  have cHRV1 := HRV.out.2.2.1
  go_wp2_with fail
  refine (of20_calls [] [aw20N] _ _ HP3.out aw20_N (by decide +kernel) HT.out).mono ?_
  rintro e W19 ⟨u3s, u3c, u3, rfl, hu3, hB⟩
  clear cHRV0 cHRV1
  replace HB := Lib.hid (HB.out.trans (hB.mono HB.out.size))
  replace HT := Lib.hid (fun j hj => keep_below hB _ _ (HT.out j hj))
  replace HR := Lib.hid (HR.out.grow hB)
  replace HRV := Lib.hid (HRV.out.below hB)
  replace HP3 := Lib.hid (HP3.out.grow hB)
  have HX3 := Lib.hid hu3
  have hsu3 := hu3.2.store
  clear hu3
  clear hB
  have cHRV0 := HRV.out.2.1
  have cHRV1 := HRV.out.2.2.1
  go_wp2_with fail
  obtain ⟨W20, hWn⟩ : ∃ xw9, W19.alloc (.cells #[.float .f64 4619567317775286272, .float .f64 4620693217682128896] 38) = xw9 := ⟨_, rfl⟩
  have hB : Below W19.heap.size W19 W20 := by rw [← hWn]; exact below_new _ _
  have hNB : Slc W20 (fun _ => True) (.slice (some ⟨W19.heap.size, 0, none⟩) 2 2) aw20B.length (f64s aw20B) := by
    rw [← hWn]; exact (Slc.owned (World.ownsRow_lit (base := 0) (e := 38) (size := 1) W19 #[.float .f64 4619567317775286272, .float .f64 4620693217682128896] 2 (Nat.zero_le _) (by unfold maxLen; omega) rfl)).keep (Kept.refl _ _) (fun _ _ _ => trivial)
  rw [hWn]
  clear hWn
  clear cHRV0 cHRV1
  replace HB := Lib.hid (HB.out.trans (hB.mono HB.out.size))
  replace HT := Lib.hid (fun j hj => keep_below hB _ _ (HT.out j hj))
  replace HR := Lib.hid (HR.out.grow hB)
  replace HRV := Lib.hid (HRV.out.below hB)
  replace HX3 := Lib.hid (HX3.out.grow hB)
  have HV4 := Lib.hid hNB
  clear hNB hB
  refine (rNums_calls _ aw20B _ HV4.out (by decide)).mono ?_
  rintro e W21 ⟨uw, rfl, huw, hB⟩
  replace HB := Lib.hid (HB.out.trans (hB.mono HB.out.size))
  replace HT := Lib.hid (fun j hj => keep_below hB _ _ (HT.out j hj))
  replace HR := Lib.hid (HR.out.grow hB)
  replace HRV := Lib.hid (HRV.out.below hB)
  replace HX3 := Lib.hid (HX3.out.grow hB)
  replace HV4 := Lib.hid (HV4.out.below hB)
  have HP4 := Lib.hid huw
  clear huw
  clear hB
  have cHRV0 := HRV.out.2.1
  have cHRV1 := HRV.out.2.2.1
  go_wp2_with fail
  refine (of20_calls [2] aw20B _ _ HP4.out aw20_B (by decide +kernel) HT.out).mono ?_
  rintro e W22 ⟨u4s, u4c, u4, rfl, hu4, hB⟩
  clear cHRV0 cHRV1
  replace HB := Lib.hid (HB.out.trans (hB.mono HB.out.size))
  replace HT := Lib.hid (fun j hj => keep_below hB _ _ (HT.out j hj))
  replace HR := Lib.hid (HR.out.grow hB)
  replace HRV := Lib.hid (HRV.out.below hB)
  replace HX3 := Lib.hid (HX3.out.grow hB)
  replace HP4 := Lib.hid (HP4.out.grow hB)
  have HX4 := Lib.hid hu4
  have hsu4 := hu4.2.store
  clear hu4
  clear hB
  have cHRV0 := HRV.out.2.1
  have cHRV1 := HRV.out.2.2.1
  go_wp2_with fail
  refine (rstake_aw _ u3 _ u4 _ HX3.out HX4.out HT.out).mono ?_
  rintro e W23 ⟨ts, tc, ut2, rfl, hut2, hB⟩
  clear cHRV0 cHRV1
  replace HB := Lib.hid (HB.out.trans (hB.mono HB.out.size))
  replace HT := Lib.hid (fun j hj => keep_below hB _ _ (HT.out j hj))
  replace HR := Lib.hid (HR.out.grow hB)
  replace HRV := Lib.hid (HRV.out.below hB)
  replace HX3 := Lib.hid (HX3.out.grow hB)
  replace HX4 := Lib.hid (HX4.out.grow hB)
  have HTK := Lib.hid hut2
  have hsut2 := hut2.2.store
  clear hut2
  clear hB
  have cHRV0 := HRV.out.2.1
  have cHRV1 := HRV.out.2.2.1
  obtain ⟨W24, hWn⟩ : ∃ xw9, W23.alloc (.cells #[.slice ts 1 tc, ut2] 31) = xw9 := ⟨_, rfl⟩
  have hB : Below W23.heap.size W23 W24 := by rw [← hWn]; exact below_new _ _
  have hNB : At2 W24 W23.heap.size (.slice ts 1 tc) (ut2) := by rw [← hWn]; exact At2.new _ _ _ _
  clear cHRV0 cHRV1
  replace HB := Lib.hid (HB.out.trans (hB.mono HB.out.size))
  replace HT := Lib.hid (fun j hj => keep_below hB _ _ (HT.out j hj))
  replace HR := Lib.hid (HR.out.grow hB)
  replace HRV := Lib.hid (HRV.out.below hB)
  replace HTK := Lib.hid (HTK.out.grow hB)
  have HTV := Lib.hid hNB
  clear hNB hB
  have cHRV0 := HRV.out.2.1
  have cHRV1 := HRV.out.2.2.1
  have cHTV0 := HTV.out.2.1
  have cHTV1 := HTV.out.2.2.1
  go_wp2_with fail
  clear hWn
  obtain ⟨W25, hWn⟩ : ∃ xw9, W24.alloc (.cells #[.float .f64 4607182418800017408, .float .f64 4611686018427387904, .float .f64 4613937818241073152, .float .f64 4607182418800017408] 38) = xw9 := ⟨_, rfl⟩
  have hB : Below W24.heap.size W24 W25 := by rw [← hWn]; exact below_new _ _
  have hNB : Slc W25 (fun _ => True) (.slice (some ⟨W24.heap.size, 0, none⟩) 4 4) aw20R.length (f64s aw20R) := by
    rw [← hWn]; exact (Slc.owned (World.ownsRow_lit (base := 0) (e := 38) (size := 1) W24 #[.float .f64 4607182418800017408, .float .f64 4611686018427387904, .float .f64 4613937818241073152, .float .f64 4607182418800017408] 4 (Nat.zero_le _) (by unfold maxLen; omega) rfl)).keep (Kept.refl _ _) (fun _ _ _ => trivial)
  rw [hWn]
  clear hWn
  clear cHRV0 cHRV1 cHTV0 cHTV1
  replace HB := Lib.hid (HB.out.trans (hB.mono HB.out.size))
  replace HT := Lib.hid (fun j hj => keep_below hB _ _ (HT.out j hj))
  replace HR := Lib.hid (HR.out.grow hB)
  replace HRV := Lib.hid (HRV.out.below hB)
  replace HTK := Lib.hid (HTK.out.grow hB)
  replace HTV := Lib.hid (HTV.out.below hB)
  have HV5 := Lib.hid hNB
  clear hNB hB
  refine (rNums_calls _ aw20R _ HV5.out (by decide)).mono ?_
  rintro e W26 ⟨ux, rfl, hux, hB⟩
  replace HB := Lib.hid (HB.out.trans (hB.mono HB.out.size))
  replace HT := Lib.hid (fun j hj => keep_below hB _ _ (HT.out j hj))
  replace HR := Lib.hid (HR.out.grow hB)
  replace HRV := Lib.hid (HRV.out.below hB)
  replace HTK := Lib.hid (HTK.out.grow hB)
  replace HTV := Lib.hid (HTV.out.below hB)
  replace HV5 := Lib.hid (HV5.out.below hB)
  obtain ⟨xs, xc, xo, xd, rfl, _, hxi⟩ := hux.opened
  rw [show (numsP aw20R).s.length = 1 from rfl, show (numsP aw20R).l.length = 4 from rfl, show (numsP aw20R).f = 0 from rfl]
  have HXI := Lib.hid (show Its W26 (fun _ => True) (.slice xo 4 xd) (aw20R.map numI) from hxi.wide (fun _ _ _ => trivial))
  clear hux hxi
  clear hB
  have cHRV0 := HRV.out.2.1
  have cHRV1 := HRV.out.2.2.1
  have cHTV0 := HTV.out.2.1
  have cHTV1 := HTV.out.2.2.1
  go_wp2_with fail
  obtain ⟨W27, hWn⟩ : ∃ xw9, (W26.alloc (.cells #[.slice (some ⟨W26.heap.size + 1, 0, none⟩) 2 2, .slice xo 4 xd, .int .i64 0] 25)).alloc (.cells #[.int .i64 2, .int .i64 2] 3) = xw9 := ⟨_, rfl⟩
  have hB : Below W26.heap.size W26 W27 := by rw [← hWn]; exact (below_new _ _).alloc (by simp) _
  have hNB : At3 W27 W26.heap.size (.slice (some ⟨W26.heap.size + 1, 0, none⟩) 2 2) (.slice xo 4 xd) (.int .i64 0) := by rw [← hWn]; exact (At3.new _ _ _ _ _).below (below_new _ _)
  have hNS : Slc W27 (fun _ => True) (.slice (some ⟨W26.heap.size + 1, 0, none⟩) 2 2) 2 (ints [2, 2]) := by
    rw [← hWn]
    have := (Slc.owned (World.ownsRow_lit (base := 0) (e := 3) (size := 1) (W26.alloc (.cells #[.slice (some ⟨W26.heap.size + 1, 0, none⟩) 2 2, .slice xo 4 xd, .int .i64 0] 25)) #[.int .i64 2, .int .i64 2] 2 (Nat.zero_le _) (by unfold maxLen; omega) rfl)).keep (Kept.refl _ _) (ok' := fun _ => True) (fun _ _ _ => trivial)
    rw [show (W26.alloc (.cells #[.slice (some ⟨W26.heap.size + 1, 0, none⟩) 2 2, .slice xo 4 xd, .int .i64 0] 25)).heap.size = W26.heap.size + 1 by simp] at this
    exact this
  rw [hWn]
  clear hWn
  clear cHRV0 cHRV1 cHTV0 cHTV1
  replace HB := Lib.hid (HB.out.trans (hB.mono HB.out.size))
  replace HT := Lib.hid (fun j hj => keep_below hB _ _ (HT.out j hj))
  replace HR := Lib.hid (HR.out.grow hB)
  replace HRV := Lib.hid (HRV.out.below hB)
  replace HTK := Lib.hid (HTK.out.grow hB)
  replace HTV := Lib.hid (HTV.out.below hB)
  replace HXI := Lib.hid (HXI.out.grow hB)
  have HPV := Lib.hid hNB
  have HPI := Lib.hid (show IsP W27 (fun _ => True) (.agg #[.slice (some ⟨W26.heap.size + 1, 0, none⟩) 2 2, .slice xo 4 xd, .int .i64 0]) (.mk [2, 2] (aw20R.map numI) 0) from IsP.of hNS HXI.out)
  clear hNB hNS hB
  obtain ⟨W28, hWD⟩ : ∃ xw9, W27.drew = xw9 := ⟨_, rfl⟩
  have hB : Below W27.heap.size W27 W28 := by rw [← hWD]; exact Below.drewN' (Below.refl _ _) 1
  replace HB := Lib.hid (HB.out.trans (hB.mono HB.out.size))
  replace HT := Lib.hid (fun j hj => keep_below hB _ _ (HT.out j hj))
  replace HR := Lib.hid (HR.out.grow hB)
  replace HRV := Lib.hid (HRV.out.below hB)
  replace HTK := Lib.hid (HTK.out.grow hB)
  replace HTV := Lib.hid (HTV.out.below hB)
  replace HPV := Lib.hid (HPV.out.below hB)
  replace HPI := Lib.hid (HPI.out.grow hB)
  clear hB
  refine wp_region_held_drew (S := fun w' => w'.cell? ⟨W16.heap.size, 0, none⟩ = some (.slice rs 2 rc) ∧ w'.cell? ⟨W16.heap.size, 1, none⟩ = some (ur) ∧ w'.cell? ⟨W23.heap.size, 0, none⟩ = some (.slice ts 1 tc) ∧ w'.cell? ⟨W23.heap.size, 1, none⟩ = some (ut2) ∧ w'.cell? ⟨W26.heap.size, 0, none⟩ = some (.slice (some ⟨W26.heap.size + 1, 0, none⟩) 2 2) ∧ w'.cell? ⟨W26.heap.size, 1, none⟩ = some (.slice xo 4 xd) ∧ w'.cell? ⟨W26.heap.size, 2, none⟩ = some (.int .i64 0)) (by kernel_rfl) (by rw [hWD]; exact ⟨HRV.out.2.1, HRV.out.2.2.1, HTV.out.2.1, HTV.out.2.2.1, HPV.out.2.1, HPV.out.2.2.1, HPV.out.2.2.2.1⟩) (fun hHeld => ?_)
  rw [hWD] at hHeld ⊢
  clear hWD
  refine wpAnyH_take (i := 0) (v := ?_) rfl (by kernel_rfl) (by kernel_rfl) (by kernel_rfl) (fun _ _ _ h => h) (Or.inl ⟨by rfl, ?_⟩) (by assumption) ?_
  rotate_left
  · (intro w hSw; (try dsimp only at hSw); go_simp; try with_reducible rfl)
  simp only [Act.put, List.getElem_toArray, List.getElem_cons_zero, List.setIfInBounds_toArray, List.set_cons_zero, List.set_cons_succ]
  refine wpAnyH_take (i := 1) (v := ?_) rfl (by kernel_rfl) (by kernel_rfl) (by kernel_rfl) (fun _ _ _ h => h) (Or.inl ⟨by rfl, ?_⟩) (by assumption) ?_
  rotate_left
  · (intro w hSw; (try dsimp only at hSw); go_simp; try with_reducible rfl)
  simp only [Act.put, List.getElem_toArray, List.getElem_cons_succ, List.getElem_cons_zero, List.setIfInBounds_toArray, List.set_cons_zero, List.set_cons_succ]
  refine wpAnyH_take (i := 2) (v := ?_) rfl (by kernel_rfl) (by kernel_rfl) (by kernel_rfl) (fun _ _ _ h => h) (Or.inl ⟨by rfl, ?_⟩) (by assumption) ?_
  rotate_left
  · (intro w hSw; (try dsimp only at hSw); go_simp; try with_reducible rfl)
  simp only [Act.put, List.getElem_toArray, List.getElem_cons_succ, List.getElem_cons_zero, List.setIfInBounds_toArray, List.set_cons_zero, List.set_cons_succ]
  refine wpAnyH_ready (rs := [3]) (by kernel_rfl) (by simp) ?_
  refine AllReadyH.cons (o := _) rfl (fun K hK => ?_) ?_
  · clear hHeld
    go_simp
    refine (shows20_calls _ _ ([2, 2], sqL aw20R) _ _ _ HR.out (gA_nums20 (by decide) aw20_R (by decide)) HPI.out (plA_nums20 _ (by decide) aw20_R) HT.out).mono ?_
    rintro e W29 ⟨rfl, hB⟩
    replace HB := Lib.hid (HB.out.trans (hB.mono HB.out.size))
    replace HT := Lib.hid (fun j hj => keep_below hB _ _ (HT.out j hj))
    replace HR := Lib.hid (HR.out.grow hB)
    replace HRV := Lib.hid (HRV.out.below hB)
    replace HTK := Lib.hid (HTK.out.grow hB)
    replace HTV := Lib.hid (HTV.out.below hB)
    replace HPV := Lib.hid (HPV.out.below hB)
    replace HPI := Lib.hid (HPI.out.grow hB)
    clear hB
    refine hK.out _ _ ?_ (fun hHeld => ?_)
    · exact ⟨HRV.out.2.1, HRV.out.2.2.1, HTV.out.2.1, HTV.out.2.2.1, HPV.out.2.1, HPV.out.2.2.1, HPV.out.2.2.2.1⟩
    clear hK K
    refine wpAnyH_take (i := 4) (v := ?_) rfl (by kernel_rfl) (by kernel_rfl) (by kernel_rfl) (fun _ _ _ h => h) (Or.inl ⟨by rfl, ?_⟩) (by assumption) ?_
    rotate_left
    · (intro w hSw; (try dsimp only at hSw); go_simp; try with_reducible rfl)
    simp only [Act.put, List.getElem_toArray, List.getElem_cons_succ, List.getElem_cons_zero, List.setIfInBounds_toArray, List.set_cons_zero, List.set_cons_succ]
    refine wpAnyH_take (i := 5) (v := ?_) rfl (by kernel_rfl) (by kernel_rfl) (by kernel_rfl) (fun _ _ _ h => h) (Or.inl ⟨by rfl, ?_⟩) (by assumption) ?_
    rotate_left
    · (intro w hSw; (try dsimp only at hSw); go_simp; try with_reducible rfl)
    simp only [Act.put, List.getElem_toArray, List.getElem_cons_succ, List.getElem_cons_zero, List.setIfInBounds_toArray, List.set_cons_zero, List.set_cons_succ]
    refine wpAnyH_take (i := 6) (v := ?_) rfl (by kernel_rfl) (by kernel_rfl) (by kernel_rfl) (fun _ _ _ h => h) (Or.inl ⟨by rfl, ?_⟩) (by assumption) ?_
    rotate_left
    · (intro w hSw; (try dsimp only at hSw); go_simp; try with_reducible rfl)
    simp only [Act.put, List.getElem_toArray, List.getElem_cons_succ, List.getElem_cons_zero, List.setIfInBounds_toArray, List.set_cons_zero, List.set_cons_succ]
    refine wpAnyH_ready (rs := [7]) (by kernel_rfl) (by simp) ?_
    refine AllReadyH.cons (o := _) rfl (fun K hK => ?_) ?_
    · clear hHeld
      go_simp
      obtain ⟨W30, hWn⟩ : ∃ xw9, W29.alloc (.cells #[.float .f64 0, .float .f64 4619567317775286272, .float .f64 4620693217682128896] 38) = xw9 := ⟨_, rfl⟩
      have hB : Below W29.heap.size W29 W30 := by rw [← hWn]; exact below_new _ _
      have hNB : Slc W30 (fun _ => True) (.slice (some ⟨W29.heap.size, 0, none⟩) 3 3) aw20T.length (f64s aw20T) := by
        rw [← hWn]; exact (Slc.owned (World.ownsRow_lit (base := 0) (e := 38) (size := 1) W29 #[.float .f64 0, .float .f64 4619567317775286272, .float .f64 4620693217682128896] 3 (Nat.zero_le _) (by unfold maxLen; omega) rfl)).keep (Kept.refl _ _) (fun _ _ _ => trivial)
      rw [hWn]
      clear hWn
      obtain ⟨bl, hnm⟩ : ∃ x, W29.heap.size = x := ⟨_, rfl⟩
      rw [hnm] at hNB ⊢
      replace HB := Lib.hid (HB.out.trans (hB.mono HB.out.size))
      replace HT := Lib.hid (fun j hj => keep_below hB _ _ (HT.out j hj))
      replace HR := Lib.hid (HR.out.grow hB)
      replace HRV := Lib.hid (HRV.out.below hB)
      replace HTK := Lib.hid (HTK.out.grow hB)
      replace HTV := Lib.hid (HTV.out.below hB)
      replace HPV := Lib.hid (HPV.out.below hB)
      replace HPI := Lib.hid (HPI.out.grow hB)
      have HSL := Lib.hid hNB
      clear hNB hB hnm
      refine hK.out _ _ ?_ (fun hHeld => ?_)
      · exact ⟨HRV.out.2.1, HRV.out.2.2.1, HTV.out.2.1, HTV.out.2.2.1, HPV.out.2.1, HPV.out.2.2.1, HPV.out.2.2.2.1⟩
      clear hK K
      refine wpAnyH_ready (rs := [8]) (by kernel_rfl) (by simp) ?_
      refine AllReadyH.cons (o := _) rfl (fun K hK => ?_) ?_
      · clear hHeld
        go_simp
        refine (rNums_calls _ aw20T _ HSL.out (by decide)).mono ?_
        rintro e W31 ⟨uy, rfl, huy, hB⟩
        replace HB := Lib.hid (HB.out.trans (hB.mono HB.out.size))
        replace HT := Lib.hid (fun j hj => keep_below hB _ _ (HT.out j hj))
        replace HR := Lib.hid (HR.out.grow hB)
        replace HRV := Lib.hid (HRV.out.below hB)
        replace HTK := Lib.hid (HTK.out.grow hB)
        replace HTV := Lib.hid (HTV.out.below hB)
        replace HPV := Lib.hid (HPV.out.below hB)
        replace HPI := Lib.hid (HPI.out.grow hB)
        replace HSL := Lib.hid (HSL.out.below hB)
        have HYI := Lib.hid huy
        obtain ⟨ys, yc, yo, yd, rfl, _⟩ := huy.opened
        clear huy
        clear hB
        refine hK.out _ _ ?_ (fun hHeld => ?_)
        · exact ⟨HRV.out.2.1, HRV.out.2.2.1, HTV.out.2.1, HTV.out.2.2.1, HPV.out.2.1, HPV.out.2.2.1, HPV.out.2.2.2.1⟩
        clear hK K
        refine wpAnyH_ready (rs := [9]) (by kernel_rfl) (by simp) ?_
        refine AllReadyH.cons (o := _) rfl (fun K hK => ?_) ?_
        · clear hHeld
          go_simp
          refine (shows20_calls _ _ ([3], sqL aw20T) _ _ _ HTK.out (gA_nums20 (by decide) aw20_T (by decide)) HYI.out (plA_nums20 _ (by decide) aw20_T) HT.out).mono ?_
          rintro e W32 ⟨rfl, hB⟩
          replace HB := Lib.hid (HB.out.trans (hB.mono HB.out.size))
          replace HT := Lib.hid (fun j hj => keep_below hB _ _ (HT.out j hj))
          replace HR := Lib.hid (HR.out.grow hB)
          replace HRV := Lib.hid (HRV.out.below hB)
          replace HTK := Lib.hid (HTK.out.grow hB)
          replace HTV := Lib.hid (HTV.out.below hB)
          replace HPV := Lib.hid (HPV.out.below hB)
          replace HPI := Lib.hid (HPI.out.grow hB)
          replace HSL := Lib.hid (HSL.out.below hB)
          replace HYI := Lib.hid (HYI.out.grow hB)
          clear hB
          refine hK.out _ _ ?_ (fun hHeld => ?_)
          · exact ⟨HRV.out.2.1, HRV.out.2.2.1, HTV.out.2.1, HTV.out.2.2.1, HPV.out.2.1, HPV.out.2.2.1, HPV.out.2.2.2.1⟩
          clear hK K
          refine wpAnyH_take (i := 10) (v := ?_) rfl (by kernel_rfl) (by kernel_rfl) (by kernel_rfl) (fun _ _ _ h => h) (Or.inl ⟨by rfl, ?_⟩) (by assumption) ?_
          rotate_left
          · (intro w hSw; (try dsimp only at hSw); go_simp; try with_reducible rfl)
          simp only [Act.put, List.getElem_toArray, List.getElem_cons_succ, List.getElem_cons_zero, List.setIfInBounds_toArray, List.set_cons_zero, List.set_cons_succ]
          refine wpAnyH_take (i := 11) (v := ?_) rfl (by kernel_rfl) (by kernel_rfl) (by kernel_rfl) (fun _ _ _ h => h) (Or.inl ⟨by rfl, ?_⟩) (by assumption) ?_
          rotate_left
          · (intro w hSw; (try dsimp only at hSw); go_simp; try with_reducible rfl)
          simp only [Act.put, List.getElem_toArray, List.getElem_cons_succ, List.getElem_cons_zero, List.setIfInBounds_toArray, List.set_cons_zero]
          refine wpAnyH_done (by kernel_rfl) ?_ _
          clear hHeld
          have cHRV0 := HRV.out.2.1
          have cHRV1 := HRV.out.2.2.1
          have cHTV0 := HTV.out.2.1
          have cHTV1 := HTV.out.2.2.1
          have cHPV0 := HPV.out.2.1
          have cHPV1 := HPV.out.2.2.1
          have cHPV2 := HPV.out.2.2.2.1
          go_wp2_with fail
          go_ret
          exact BoolIs.mk rfl HB.out
        exact AllReadyH.nil
      exact AllReadyH.nil
    exact AllReadyH.nil
  exact AllReadyH.nil
end Go.Proofs.YtbfcdpabjailcaaGreatDoor

/- Layer 20's law, plain: the arrays that it shows are good, and what they hold. -/
namespace Go.Proofs.YtbfcdpabjailcaaGreatDoor
set_option maxRecDepth 100000
open Go.RowKit Fl
set_option linter.unusedVariables false

/-- What a good plain array makes. -/
structure Made20 (p : PA) (A : List Int × VV) (T : PA) : Prop where
  good : rG A
  s : A.1 = p.s
  Ts : T.s = p.s
  Tf : T.f = p.f
  Tl : T.l.length = p.l.length
  pr : prodR p.s 1048576 = ((p.l.length : Int), 0)
  len : A.2.len = p.l.length
  cls : A.2.cls = p.f
  its : itsA 39 A.2 = T.l
theorem made20 {p : PA} (h : chk 40 p = 0) (h8 : p.s.length ≤ 8) : Made20 p (arrP 40 p) (tidyP 40 p) := by
  obtain ⟨e1, e2, e3⟩ := arrP_len h
  have hg := arrP_good 40 p h
  refine ⟨⟨hg, by rw [e3]; exact h8⟩, e3, rfl, rfl, ?_, ?_, e1, e2, its_arrP (d := 39) h⟩
  · show (p.l.map _).length = _
    rw [List.length_map]
  · have := hg.1
    rw [e3, e1] at this
    exact this
theorem shape_arr20 {p : PA} {A : List Int × VV} {T : PA} (h : Made20 p A T) : gA 40 ([(A.1.length : Int)], sqL (shF A.1)) ∧ plA 40 ([(A.1.length : Int)], sqL (shF A.1)) = numsP (shF p.s) := by
  rw [h.s]
  have hN := shF_num h.pr
  have hl : (shF p.s).length = p.s.length := by unfold shF; rw [List.length_map]
  have h8 := (prodR_len h.pr).1
  refine ⟨gA_nums20 (by omega) hN (by rw [← hl]; exact nums_prod _ (by omega)), ?_⟩
  rw [plA_nums20 _ (by omega) hN, ← hl]
  rfl
theorem tally_arr20 {p : PA} {A : List Int × VV} {T : PA} (h : Made20 p A T) : gA 40 ([], sqL [floatOfInt .f64 (tabN A.1)]) ∧ plA 40 ([], sqL [floatOfInt .f64 (tabN A.1)]) = numP (floatOfInt .f64 (tabN p.s)) := by
  rw [h.s]
  have hN : ∀ x ∈ [floatOfInt .f64 (tabN p.s)], Num x := by
    intro x hx
    rw [List.mem_singleton.1 hx]
    exact num_len20 (tabN_mem h.pr)
  exact ⟨gA_nums20 (by simp) hN (show prodR [] 1048576 = (((1 : Nat) : Int), 0) by decide), by rw [plA_nums20 _ (by simp) hN]; rfl⟩
theorem ravel_arr20 {p : PA} {A : List Int × VV} {T : PA} (h : Made20 p A T) : gA 40 ([(A.2.len : Int)], A.2) ∧ plA 40 ([(A.2.len : Int)], A.2) = .mk [(p.l.length : Int)] T.l p.f := by
  refine ⟨gV_gA (gA_gV (d := 39) h.good.1), ?_⟩
  show PA.mk _ (itsA 39 A.2) A.2.cls = _
  rw [h.its, h.cls, h.len]
theorem table_arr20 {p : PA} {A : List Int × VV} {T : PA} (h : Made20 p A T) : gA 40 ([tabN A.1, tabM A.1], A.2) ∧ plA 40 ([tabN A.1, tabM A.1], A.2) = .mk [tabN T.s, tabM T.s] T.l T.f := by
  obtain ⟨g1, g2, g3, g4, g5⟩ := h.good.1
  refine ⟨⟨?_, g2, g3, g4, g5⟩, ?_⟩
  · show prodR [tabN A.1, tabM A.1] 1048576 = _
    rw [h.s, h.len]
    exact table_prod h.pr
  · show PA.mk _ (itsA 39 A.2) A.2.cls = _
    rw [h.its, h.cls, h.s, h.Ts, h.Tf]
end Go.Proofs.YtbfcdpabjailcaaGreatDoor
