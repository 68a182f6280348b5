/- Layer 18, walked: Cells, Grade. Written by tools/gen_mgu.py. -/
import Derived.Test.YtbdbpamefkgelaaGreatDoorMgT
import Derived.Test.YtbdbpamefkgelaaGreatDoorMgP
import Derived.Test.YtbdbpamefkgelaaGreatDoorOrB
import Derived.Test.YtbdbpamefkgelaaGreatDoorRxG
namespace Go.Proofs.YtbdbpamefkgelaaGreatDoor
set_option maxRecDepth 100000
open Go.RowKit Fl
set_option linter.unusedVariables false

def MgYes (A : VV) (size : Nat) (down : Bool) (w : World) (e : Ending) (w' : World) : Prop := ∃ v, e = .returned (.tuple #[v, .bool true]) ∧ Slc w' (fun b => w.heap.size ≤ b) v (A.len / size) (ints (zL (mgL A size down))) ∧ Below w.heap.size w w'
def MgNo (w : World) (e : Ending) (w' : World) : Prop := e = .returned (.tuple #[.slice none 0 0, .bool false]) ∧ Below w.heap.size w w'
theorem mgc1_calls {ok : Nat → Prop} (u : Value) (A : VV) (size i k bv bs bd : Nat) (down : Bool) (w : World) (hv : At1 w bv u) (hs : At1 w bs (.int .i64 (size : Int))) (hd : At1 w bd (.bool down)) (h : IsV w ok u A) (fA : ∀ x ∈ A.nums, Fnt x) (hc : A.cls < 2) (hp : 0 < size) (hm : A.len ≤ 1048576) (hi : i < A.len / size) (hk : k < A.len / size) :
    Calls Tryz.prog 38 #[.int .i64 (i : Int), .int .i64 (k : Int), .pointer (some ⟨bv, 0, none⟩), .pointer (some ⟨bs, 0, none⟩), .pointer (some ⟨bd, 0, none⟩)] w fun e w' => e = .returned (.bool (lesK (keyV A) size down i k)) ∧ Below w.heap.size w w' := by
  have HCALL := Lib.hid (oless_calls u A size i k down w h fA hc hp hm hi hk)
  have c0 := hv.2.1
  have c1 := hs.2.1
  have c2 := hd.2.1
  have hsu := h.store
  clear hv hs hd h fA hc hp hm hi hk
  go_enter Tryz.func38, Tryz.ntmps38
  go_wp2_with fail
  refine HCALL.out.mono ?_
  rintro e w1 ⟨rfl, hB⟩
  go_wp2
  go_ret
  exact ⟨rfl, hB⟩
theorem mg_nums {A : VV} (hok : A.ok) (hn : A.nm) : ∀ x ∈ A.nums, Fnt x := fun x hx => (VV.nums_num hok hn x hx).1

set_option maxHeartbeats 8000000 in
theorem mgcells_yes {ok : Nat → Prop} (u : Value) (A : VV) (size : Nat) (down : Bool) (w : World) (h : IsV w ok u A) (hA : A.ok ∧ A.nm) (ht : ∀ z ∈ A.text, -2147483648 ≤ z ∧ z ≤ 2147483647) (hc : A.cls < 2) (hk : A.kind ≠ 0) (hs : 0 < size) (hsm : size ≤ 1048576) (hT : TabAt w) :
    Calls Tryz.prog 16 #[.agg #[u], .int .i64 (size : Int), .bool down] w (MgYes A size down w) := by
  have hsu := h.store
  obtain ⟨W1, hW1⟩ : ∃ W1, W1 = ((w.alloc (.cells #[u] 36)).alloc (.cells #[.int .i64 (size : Int)] 3)).alloc (.cells #[.bool down] 4) := ⟨_, rfl⟩
  have HB := Lib.hid (show Below w.heap.size w W1 by rw [hW1]; exact ((below_new _ _).alloc (by simp) _).alloc (by simp; omega) _)
  have HV := Lib.hid (show At1 W1 w.heap.size u by rw [hW1]; exact ((At1.new w _ _).below (below_new _ _)).below (below_new _ _))
  have HS := Lib.hid (show At1 W1 (w.heap.size + 1) (.int .i64 (size : Int)) by rw [hW1]; have := (At1.new (w.alloc (.cells #[u] 36)) (.int .i64 (size : Int)) 3).below (below_new _ (.cells #[.bool down] 4)); simpa using this)
  have HD := Lib.hid (show At1 W1 (w.heap.size + 1 + 1) (.bool down) by rw [hW1]; have := At1.new ((w.alloc (.cells #[u] 36)).alloc (.cells #[.int .i64 (size : Int)] 3)) (.bool down) 4; simpa using this)
  have HU := Lib.hid (show IsV W1 ok u A from h.grow HB.out)
  have hfold := hW1.symm
  have hmf : ∀ (fn : Fn) (first cap : Array Value) (w : World), (Instr.makeFunc fn first cap).run Tryz.prog w = .ok (.func fn first cap) w := fun _ _ _ _ => rfl
  have HA := Lib.hid hA
  have HC := Lib.hid hc
  have HP := Lib.hid hs
  have HLN := Lib.hid (VV.ok_len hA.1)
  obtain ⟨n, hn⟩ : ∃ n, A.len = n := ⟨_, rfl⟩
  obtain ⟨Q, hQ⟩ : ∃ Q, n / size = Q := ⟨_, rfl⟩
  have d2 : (n : Int).tdiv (size : Int) = (Q : Int) := by rw [← hQ]; rfl
  have hnm : n ≤ 1048576 := by rw [← hn]; exact HLN.out
  have hQn : Q ≤ n := by rw [← hQ]; exact Nat.div_le_self _ _
  have HN := Lib.hid hn
  have HQ := Lib.hid hQ
  have hsz1 : ¬ ((size : Int) < 1) := by omega
  have w1 : IntKind.i64.wrap (Q : Int) = (Q : Int) := IntWalk.i64_in _ (by omega)
  have hz1 : ¬ (size : Int) = 0 := by omega
  have hz2 : ¬ size = 0 := by omega
  have d1 : (n : Int) / (size : Int) = (Q : Int) := by rw [← hQ]; rfl
  have hcl : decide (A.cls = 0 ∨ A.cls = 1) = true := decide_eq_true (by rcases VV.cls_cases A with c | c | c <;> omega)
  have HCL := Lib.hid hcl
  clear hW1 h hA ht hc hk hT hn hQ hcl
  have cHV0 := HV.out.2.1
  have cHS0 := HS.out.2.1
  have cHD0 := HD.out.2.1
  go_enter Tryz.func16, Tryz.ntmps16
  go_wp2_with fail
  clear hfold
  refine (class_calls _ A _ HU.out).mono ?_
  rintro e W2 ⟨rfl, hB⟩
  clear cHV0 cHS0 cHD0
  replace HV := Lib.hid (HV.out.below hB)
  replace HS := Lib.hid (HS.out.below hB)
  replace HD := Lib.hid (HD.out.below hB)
  replace HB := Lib.hid (HB.out.trans (hB.mono HB.out.size))
  replace HU := Lib.hid (HU.out.grow hB)
  clear hB
  go_wp2_with ((with_reducible refine (ohas_calls A.cls _).mono ?_); rintro e w9 ⟨rfl, rfl⟩; rw [HCL.out])
  obtain ⟨W3, hWD⟩ : ∃ xw9, W2.drew = xw9 := ⟨_, rfl⟩
  have hB : Below W2.heap.size W2 W3 := by rw [← hWD]; exact Below.drewN' (Below.refl _ _) 1
  replace HV := Lib.hid (HV.out.below hB)
  replace HS := Lib.hid (HS.out.below hB)
  replace HD := Lib.hid (HD.out.below hB)
  replace HB := Lib.hid (HB.out.trans (hB.mono HB.out.size))
  replace HU := Lib.hid (HU.out.grow hB)
  clear hB
  refine wp_region_held_drew (S := fun w' => w'.cell? ⟨w.heap.size, 0, none⟩ = some u ∧ w'.cell? ⟨w.heap.size + 1, 0, none⟩ = some (.int .i64 (size : Int))) (by kernel_rfl) (by rw [hWD]; exact ⟨HV.out.2.1, HS.out.2.1⟩) (fun hHeld => ?_)
  rw [hWD] at hHeld ⊢
  clear hWD
  refine wpAnyH_take (i := 0) (v := ?_) rfl (by kernel_rfl) (by kernel_rfl) (by kernel_rfl) (fun _ _ _ h => h) (Or.inl ⟨by rfl, ?_⟩) (by assumption) ?_
  rotate_left
  · (intro w hSw; (try dsimp only at hSw); go_simp; try with_reducible rfl)
  simp only [Act.put, List.getElem_toArray, List.getElem_cons_zero, List.setIfInBounds_toArray, List.set_cons_zero, List.set_cons_succ]
  refine wpAnyH_take (i := 2) (v := ?_) rfl (by kernel_rfl) (by kernel_rfl) (by kernel_rfl) (fun _ _ _ h => h) (Or.inl ⟨by rfl, ?_⟩) (by assumption) ?_
  rotate_left
  · (intro w hSw; (try dsimp only at hSw); go_simp; try with_reducible rfl)
  simp only [Act.put, List.getElem_toArray, List.getElem_cons_succ, List.getElem_cons_zero, List.setIfInBounds_toArray, List.set_cons_zero, List.set_cons_succ]
  refine wpAnyH_take (i := 4) (v := ?_) rfl (by kernel_rfl) (by kernel_rfl) (by kernel_rfl) (fun _ _ _ h => h) (Or.inl ⟨by rfl, ?_⟩) (by assumption) ?_
  rotate_left
  · (intro w hSw; (try dsimp only at hSw); go_simp; try with_reducible rfl)
  simp only [Act.put, List.getElem_toArray, List.getElem_cons_succ, List.getElem_cons_zero, List.setIfInBounds_toArray, List.set_cons_zero, List.set_cons_succ]
  refine wpAnyH_ready (rs := [1]) (by kernel_rfl) (by simp) ?_
  refine AllReadyH.cons (o := _) rfl (fun K' hK' => ?_) AllReadyH.nil
  clear hHeld
  go_simp
  refine (vlen_calls _ A _ HU.out).mono ?_
  rintro e W4 ⟨rfl, hB⟩
  rw [HN.out]
  replace HV := Lib.hid (HV.out.below hB)
  replace HS := Lib.hid (HS.out.below hB)
  replace HD := Lib.hid (HD.out.below hB)
  replace HB := Lib.hid (HB.out.trans (hB.mono HB.out.size))
  replace HU := Lib.hid (HU.out.grow hB)
  clear hB
  refine hK'.out _ _ ⟨HV.out.2.1, HS.out.2.1⟩ (fun hHeld => ?_)
  clear hK' K'
  refine wpAnyH_take (i := 3) (v := ?_) rfl (by kernel_rfl) (by kernel_rfl) (by kernel_rfl) (fun _ _ _ h => h) (Or.inl ⟨by rfl, ?_⟩) (by assumption) ?_
  rotate_left
  · (intro w hSw; (try dsimp only at hSw); go_simp; try with_reducible rfl)
  simp only [Act.put, List.getElem_toArray, List.getElem_cons_succ, List.getElem_cons_zero, List.setIfInBounds_toArray, List.set_cons_zero, List.set_cons_succ]
  refine wpAnyH_ready (rs := [5]) (by kernel_rfl) (by simp) ?_
  refine AllReadyH.cons (o := _) rfl (fun K' hK' => ?_) AllReadyH.nil
  clear hHeld
  go_simp
  refine (mgsorted_calls 38 #[.pointer (some ⟨w.heap.size, 0, none⟩), .pointer (some ⟨w.heap.size + 1, 0, none⟩), .pointer (some ⟨w.heap.size + 1 + 1, 0, none⟩)] (n := Q) (ahead := lesK (keyV A) size down) W4 (fun args wx => by simp [go_sem]) (fun i k wx hi hk hB => mgc1_calls u A size i k _ _ _ down wx (HV.out.below hB) (HS.out.below hB) (HD.out.below hB) (HU.out.grow hB) (mg_nums HA.out.1 HA.out.2) HC.out HP.out HLN.out (by rw [HN.out, HQ.out]; exact hi) (by rw [HN.out, HQ.out]; exact hk)) (weak_tot (lesK_tot _ _ _ _)) (by omega)).mono ?_
  rintro e W5 ⟨v, l, rfl, hso, hv, hB⟩
  have HSO := Lib.hid (so_same (fun i k hi hk => stO_tot (lesK_tot _ _ _ _) hi hk) hso)
  have HV5 := Lib.hid hv
  clear hso hv
  replace HV := Lib.hid (HV.out.below hB)
  replace HS := Lib.hid (HS.out.below hB)
  have HSZ := Lib.hid (HB.out.size)
  replace HB := Lib.hid (HB.out.trans (hB.mono HB.out.size))
  clear hB
  refine hK'.out _ _ ⟨HV.out.2.1, HS.out.2.1⟩ (fun hHeld => ?_)
  clear hK' K'
  refine wpAnyH_take (i := 6) (v := ?_) rfl (by kernel_rfl) (by kernel_rfl) (by kernel_rfl) (fun _ _ _ h => h) (Or.inl ⟨by rfl, ?_⟩) (by assumption) ?_
  rotate_left
  · (intro w hSw; (try dsimp only at hSw); go_simp; try with_reducible rfl)
  simp only [Act.put, List.getElem_toArray, List.getElem_cons_succ, List.getElem_cons_zero, List.setIfInBounds_toArray, List.set_cons_zero, List.set_cons_succ]
  refine wpAnyH_take (i := 7) (v := ?_) rfl (by kernel_rfl) (by kernel_rfl) (by kernel_rfl) (fun _ _ _ h => h) (Or.inl ⟨by rfl, ?_⟩) (by assumption) ?_
  rotate_left
  · (intro w hSw; (try dsimp only at hSw); go_simp; try with_reducible rfl)
  simp only [Act.put, List.getElem_toArray, List.getElem_cons_succ, List.getElem_cons_zero, List.setIfInBounds_toArray, List.set_cons_zero, List.set_cons_succ]
  refine wpAnyH_done (by kernel_rfl) ?_ _
  clear hHeld
  go_wp2
  go_ret2
  refine ⟨v, rfl, ?_, HB.out⟩
  unfold mgL
  rw [HN.out, HQ.out, ← (so_iff (lesK_tot _ _ _ _) (grN_gr (lesK_tot _ _ _ _))).1 HSO.out]
  exact HV5.out.keep (Kept.refl _ _) (fun b _ h => Nat.le_trans HSZ.out h)
set_option maxHeartbeats 8000000 in
theorem mgcells_no {ok : Nat → Prop} (u : Value) (A : VV) (z : Int) (down : Bool) (w : World) (h : IsV w ok u A) (hA : A.ok ∧ A.nm) (hz : A.cls = 2 ∨ z < 1) (hT : TabAt w) :
    Calls Tryz.prog 16 #[.agg #[u], .int .i64 z, .bool down] w (MgNo w) := by
  have hsu := h.store
  obtain ⟨W1, hW1⟩ : ∃ W1, W1 = ((w.alloc (.cells #[u] 36)).alloc (.cells #[.int .i64 z] 3)).alloc (.cells #[.bool down] 4) := ⟨_, rfl⟩
  have HB := Lib.hid (show Below w.heap.size w W1 by rw [hW1]; exact ((below_new _ _).alloc (by simp) _).alloc (by simp; omega) _)
  have HV := Lib.hid (show At1 W1 w.heap.size u by rw [hW1]; exact ((At1.new w _ _).below (below_new _ _)).below (below_new _ _))
  have HS := Lib.hid (show At1 W1 (w.heap.size + 1) (.int .i64 z) by rw [hW1]; have := (At1.new (w.alloc (.cells #[u] 36)) (.int .i64 z) 3).below (below_new _ (.cells #[.bool down] 4)); simpa using this)
  have HD := Lib.hid (show At1 W1 (w.heap.size + 1 + 1) (.bool down) by rw [hW1]; have := At1.new ((w.alloc (.cells #[u] 36)).alloc (.cells #[.int .i64 z] 3)) (.bool down) 4; simpa using this)
  have HU := Lib.hid (show IsV W1 ok u A from h.grow HB.out)
  have hfold := hW1.symm
  have hmf : ∀ (fn : Fn) (first cap : Array Value) (w : World), (Instr.makeFunc fn first cap).run Tryz.prog w = .ok (.func fn first cap) w := fun _ _ _ _ => rfl
  clear hW1 h hA hT
  have cHV0 := HV.out.2.1
  have cHS0 := HS.out.2.1
  have cHD0 := HD.out.2.1
  by_cases h1 : z < 1
  · go_enter Tryz.func16, Tryz.ntmps16
    go_wp2_with fail
    go_wp2
    go_ret2
    exact ⟨rfl, HB.out⟩
  · have hcl : decide (A.cls = 0 ∨ A.cls = 1) = false := decide_eq_false (by rcases hz with c | c <;> omega)
    have HCL := Lib.hid hcl
    clear hcl hz
    go_enter Tryz.func16, Tryz.ntmps16
    go_wp2_with fail
    clear hfold
    refine (class_calls _ A _ HU.out).mono ?_
    rintro e W2 ⟨rfl, hB⟩
    clear cHV0 cHS0 cHD0
    replace HB := Lib.hid (HB.out.trans (hB.mono HB.out.size))
    clear hB
    go_wp2_with ((with_reducible refine (ohas_calls A.cls _).mono ?_); rintro e w9 ⟨rfl, rfl⟩; rw [HCL.out])
    go_ret2
    exact ⟨rfl, HB.out⟩
end Go.Proofs.YtbdbpamefkgelaaGreatDoor
