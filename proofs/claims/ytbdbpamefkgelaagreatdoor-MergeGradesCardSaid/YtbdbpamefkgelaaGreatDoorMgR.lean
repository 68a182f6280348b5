/- Layer 18, walked: mergeInto: two runs go over into a row, the one ahead first. Written by tools/gen_mgr.py. -/
import Derived.Test.YtbdbpamefkgelaaGreatDoorMgN
import Derived.Test.YtbdbpamefkgelaaGreatDoorFoW
import Derived.Test.YtbdbpamefkgelaaGreatDoorShP
import Derived.Test.YtbdbpamefkgelaaGreatDoorRxD
import Derived.Laws.CopyOwn
import Derived.Deep.DeepMust
namespace Go.Proofs.YtbdbpamefkgelaaGreatDoor
set_option maxRecDepth 100000
open Go.RowKit
set_option linter.unusedVariables false

/-- A block that holds a row of places, whole. -/
def RowP (w : World) (b : Nat) (l : List Nat) : Prop := w.heap[b]? = some (.cells (ints (zL l)).toArray 3 (0, 0))
theorem RowP.cell {w : World} {b : Nat} {l : List Nat} (h : RowP w b l) {i x : Nat} (hx : l[i]? = some x) : w.cell? ⟨b, i, none⟩ = some (.int .i64 (x : Int)) :=
  row_cell h (by unfold ints zL; rw [List.getElem?_map, List.getElem?_map, hx]; rfl)
theorem RowP.free {w : World} {b : Nat} {l : List Nat} (h : RowP w b l) (i : Nat) : w.frozen? ⟨b, i, none⟩ = false := frozen_of_row w b i _ _ h
theorem RowP.lt {w : World} {b : Nat} {l : List Nat} (h : RowP w b l) : b < w.heap.size := lt_heap h
theorem RowP.set {w : World} {b : Nat} {l : List Nat} (h : RowP w b l) (i x : Nat) : RowP (w.setCell ⟨b, i, none⟩ (.int .i64 (x : Int))) b (l.set i x) := by
  have := heap_setCell_same w b i _ _ (.int .i64 (x : Int)) h
  unfold RowP
  rw [this]
  congr 2
  rw [List.setIfInBounds_toArray]
  unfold ints zL
  rw [List.map_set, List.map_set]
theorem RowP.below {w w' : World} {b : Nat} {l : List Nat} (h : RowP w b l) (hb : Below w.heap.size w w') : RowP w' b l := (hb.block _ h.lt).trans h
theorem RowP.kept {w w' : World} {b c : Nat} {l : List Nat} (h : RowP w b l) (hg : w.grownBy w' (some c)) (hne : b ≠ c) : RowP w' b l := (hg.block _ h.lt (by simpa using hne)).trans h
theorem RowP.slc {w : World} {b : Nat} {l : List Nat} (h : RowP w b l) (hm : l.length ≤ maxLen) : Slc w (fun c => c = b) (.slice (some ⟨b, 0, none⟩) l.length l.length) (zL l).length (ints (zL l)) := by
  rw [zL_len]
  refine ⟨⟨by rw [ints_len, zL_len], _, _, rfl, fun i hi => ?_⟩, _, _, rfl, Nat.le_refl _, hm⟩
  rw [ints_len, zL_len] at hi
  refine ⟨b, 0, rfl, rfl, ?_⟩
  rw [Nat.zero_add, h.cell (List.getElem?_eq_getElem hi)]
  simp [ints, zL]
theorem Slc.grownBy {w w' : World} {c : Nat} {s : Value} {n : Nat} {xs : List Value} (h : Slc w (fun b => b ≠ c) s n xs) (hg : w.grownBy w' (some c)) : Slc w' (fun b => b ≠ c) s n xs :=
  h.keep (fun a v ho hv => hg.cell hv (by simpa using ho)) (fun _ _ h => h)
theorem zL_one (l : List Nat) (x : Nat) : zL (l ++ [x]) = zL l ++ [(x : Int)] := by simp [zL]
theorem splice_rows (m : List Nat) (f : Nat) (o : List Nat) : ints (zL (splice m f o)) = splice (ints (zL m)) f (ints (zL o)) := by
  unfold ints zL; rw [splice_map, splice_map]
/-- The rest of a run behind one more. -/
theorem run_rest {w : World} {ok : Nat → Prop} {b off cp n : Nat} {l : List Nat} (h : Slc w ok (.slice (some ⟨b, off, none⟩) n cp) n (ints (zL l))) (hp : 0 < n) :
    (cp = 1 → Slc w ok (.slice (some ⟨b, off, none⟩) (n - 1) 0) (n - 1) (ints (zL (l.drop 1)))) ∧ (¬ cp = 1 → Slc w ok (.slice (some ⟨b, off + 1, none⟩) (n - 1) (cp - 1)) (n - 1) (ints (zL (l.drop 1)))) := by
  rw [zL_drop]
  have hz : (zL l).length = n := by have := h.1.len; rwa [ints_len] at this
  have h' : Slc w ok (.slice (some ⟨b, off, none⟩) (zL l).length cp) (zL l).length (ints (zL l)) := by rw [hz]; exact h
  have hcp : n ≤ cp := by obtain ⟨_, ao, c1, e, h1, _⟩ := h; cases e; exact h1
  refine ⟨fun e => ?_, fun _ => ?_⟩
  · have := Slc.drop0 (w := w) (ok := ok) (b := b) (off := off) (cap := cp) (k := 0) (s := zL l) (by omega) (by omega) (by omega)
    rw [List.length_drop, hz] at this
    exact this
  · have := h'.drop 1 (by omega)
    rw [List.length_drop, hz] at this
    exact this
theorem drop_get {l : List Nat} {i x : Nat} (h : (l.drop i)[0]? = some x) : l[i]? = some x := by rw [List.getElem?_drop, Nat.add_zero] at h; exact h
theorem drop_mem {l : List Nat} {i x : Nat} (h : l[i]? = some x) : x ∈ l := List.mem_of_getElem? h
theorem u64_len {x : Nat} (h : x ≤ 1048576) : (x : Int) ≤ 9223372036854775807 := by omega

def lenS : Value → Nat
  | .slice _ n _ => n
  | _ => 0
/-- Two runs. -/
structure Runs18 (n : Nat) (ahead : Nat → Nat → Bool) (A B : List Nat) : Prop where
  weak : Weak n ahead
  ltA : ∀ x ∈ A, x < n
  ltB : ∀ x ∈ B, x < n
  soA : A.Pairwise (fun x y => stO ahead x y = true)
  soB : B.Pairwise (fun x y => stO ahead x y = true)
  lt : ∀ a ∈ A, ∀ b ∈ B, a < b
theorem Runs18.takeB {n : Nat} {ahead : Nat → Nat → Bool} {A B : List Nat} (h : Runs18 n ahead A B) {i j a b : Nat} {o : List Nat} (hm : Mrg (stO ahead) A B i j o) (ha : A[i]? = some a) (hb : B[j]? = some b) (hc : ahead b a = true) : Mrg (stO ahead) A B i (j + 1) (o ++ [b]) := by
  have ha' := List.mem_of_getElem? ha
  have hb' := List.mem_of_getElem? hb
  exact (hm.swap.one h.weak.tot h.ltB h.ltA h.soB h.soA hb (fun x hx => by
    rw [ha] at hx; cases hx
    exact (stO_pick h.weak (h.ltA a ha') (h.ltB b hb') (h.lt a ha' b hb')).1 hc)).swap
theorem Runs18.takeA {n : Nat} {ahead : Nat → Nat → Bool} {A B : List Nat} (h : Runs18 n ahead A B) {i j a b : Nat} {o : List Nat} (hm : Mrg (stO ahead) A B i j o) (ha : A[i]? = some a) (hb : B[j]? = some b) (hc : ahead b a = false) : Mrg (stO ahead) A B (i + 1) j (o ++ [a]) := by
  have ha' := List.mem_of_getElem? ha
  have hb' := List.mem_of_getElem? hb
  exact hm.one h.weak.tot h.ltA h.ltB h.soA h.soB ha (fun x hx => by
    rw [hb] at hx; cases hx
    exact (stO_pick h.weak (h.ltA a ha') (h.ltB b hb') (h.lt a ha' b hb')).2 hc)

theorem run_len_of {w : World} {ok : Nat → Prop} {v : Value} {n : Nat} {l : List Nat} (h : Slc w ok v n (ints (zL l))) : l.length = n := by
  have := h.1.len; rwa [ints_len, zL_len] at this


/-- 'copy' as a step of the walk: the row behind it, and that no other block has turned. -/
theorem wpList_copy_put {P : Program} {w : World} {ops : Array Oper} {rest : List Oper} {o : Oper} {a : Act} {Q : Exit → Act → World → Prop} (hgd : o.guard = none) (d s : Operand) (dT sT : TypeId)
    (ho : o.op = .call { callee := .builtin .copy, args := #[d, s], argTypes := #[dT, sT] }) (elem : TypeId) (hu : P.underlying dT = some (.slice elem)) (hsz : (P.info? elem).map (·.size) = some 1)
    (dp sp : Option Addr) (dLen dCap sLen sCap : Nat) (hd : a.eval d = .slice dp dLen dCap) (hs : a.eval s = .slice sp sLen sCap)
    (g off : Nat) (cur : List Value) (t : TypeId) (hg : w.heap[g]? = some (.cells cur.toArray t (0, 0))) (cs : List Value) (hn : cs.length = Nat.min sLen dLen)
    (hpos : 0 < cs.length → dp = some ⟨g, off, none⟩ ∧ ∃ ad, sp = some ad ∧ ∀ j v, cs[j]? = some v → w.cell? (ad.add j) = some v)
    (hfit : off + cs.length ≤ cur.length) (h1 : ∀ v ∈ cs, v.oneCell' = true)
    (h : ∀ w', Hid (w'.heap[g]? = some (.cells (splice cur off cs).toArray t (0, 0))) → Hid (w.grownBy w' (some g)) → wpList P ops Q rest (a.put o.dst (goInt cs.length)) w') :
    wpList P ops Q (o :: rest) a w := by
  by_cases h0 : cs.length = 0
  · obtain rfl : cs = [] := List.eq_nil_of_length_eq_zero h0
    refine wpList_copy_nothing hgd d s dT sT ho elem hu hsz dp sp dLen dCap sLen sCap hd hs (by simpa using hn.symm) ?_
    exact h w (show _ = _ by simpa [splice] using hg) (Lib.hid (grown_refl _ _))
  · obtain ⟨rfl, ad, rfl, hsrc⟩ := hpos (by omega)
    refine wpList_copy_own hgd d s dT sT ho elem hu hsz g off dLen dCap ad sLen sCap hd hs cur.toArray t hg cs hn hsrc (by simpa using hfit) h1 ?_
    exact h _ (show _ = _ by simpa [splice] using setRow_heap w g _ _ t _ hg) (Lib.hid ⟨rfl, rfl, rfl, by simp [World.setRow], fun k _ hk => setRow_other w g k _ (fun e => hk (by rw [e]))⟩)
theorem places_one (l : List Nat) : ∀ v ∈ ints (zL l), v.oneCell' = true := by
  intro v hv
  obtain ⟨x, _, rfl⟩ := List.mem_map.1 hv
  rfl
theorem places_at {w : World} {ok : Nat → Prop} {so : Option Addr} {n c : Nat} {l : List Nat} (h : Slc w ok (.slice so n c) n (ints (zL l))) (hp : 0 < (ints (zL l)).length) : ∃ ad, so = some ad ∧ ∀ j v, (ints (zL l))[j]? = some v → w.cell? (ad.add j) = some v := by
  obtain ⟨ao, cap, e, _, _, hl, hc⟩ := h.opened
  cases e
  obtain ⟨b, off, rfl, _, _⟩ := hc 0 hp
  refine ⟨_, rfl, fun j v hj => ?_⟩
  obtain ⟨h1, h2⟩ := List.getElem?_eq_some_iff.1 hj
  obtain ⟨b', off', e, _, hcc⟩ := hc j h1
  cases e
  rw [h2] at hcc
  exact add_cell hcc
theorem slice_eqN {b a a' n n' c c' : Nat} (h1 : a = a') (h2 : n = n') (h3 : c = c') : Value.slice (some ⟨b, a, none⟩) n c = .slice (some ⟨b, a', none⟩) n' c' := by rw [h1, h2, h3]
theorem size_int18 : (Tryz.prog.info? 3).map (·.size) = some 1 := by kernel_rfl

set_option maxHeartbeats 8000000 in
theorem mginto_calls (K : FuncId) (cap : Array Value) {n g : Nat} {ahead : Nat → Nat → Bool} (W0 : World) (hK : ∀ (args : Array Value) (wx : World), (callFunc K args).run Tryz.prog wx = .ok (.enter K args) wx)
    (hA : ∀ (i k : Nat) (wx : World), i < n → k < n → Below g W0 wx → Calls Tryz.prog K (#[.int .i64 (i : Int), .int .i64 (k : Int)] ++ cap) wx fun e w' => e = .returned (.bool (ahead i k)) ∧ Below wx.heap.size wx w')
    (bt f nA nB ct : Nat) (m A B : List Nat) (vf vs : Value) (w : World) (hW : Below g W0 w) (hgs : g ≤ w.heap.size) (hg : g ≤ bt) (hT : RowP w bt m) (hf : f + (nA + nB) ≤ m.length) (hm : m.length ≤ 1048576) (hct : nA + nB ≤ ct) (hcm : ct ≤ 1048576) (hpos : 0 < nA + nB)
    (hF : Slc w (fun b => b ≠ bt) vf nA (ints (zL A))) (hS : Slc w (fun b => b ≠ bt) vs nB (ints (zL B))) (hR : Runs18 n ahead A B) :
    Calls Tryz.prog 65 #[.slice (some ⟨bt, f, none⟩) (nA + nB) ct, vf, vs, .func (.func K) #[] cap] w fun e w' => e = .returned (.tuple #[]) ∧ ∃ o, o.Perm (A ++ B) ∧ o.Pairwise (fun x y => stO ahead x y = true) ∧ RowP w' bt (splice m f o) ∧ w.grownBy w' (some bt) := by
  have HLA := Lib.hid (run_len_of hF)
  have HLB := Lib.hid (run_len_of hS)
  have HKF := Lib.hid hK
  have HAH := Lib.hid hA
  have HR := Lib.hid hR
  have HF0 := Lib.hid hF
  have HS0 := Lib.hid hS
  have HT0 := Lib.hid hT
  have HW := Lib.hid hW
  have HGS := Lib.hid hgs
  have HG := Lib.hid hg
  clear hA hR hF hS hT hW hg hK hgs
  go_enter Tryz.func65, Tryz.ntmps65
  go_wp2_with fail
  go_loopw [0, 1, 2] (fun tv fv sv wr => ∃ (i j : Nat) (o : List Nat), i + j < nA + nB ∧ i ≤ nA ∧ j ≤ nB ∧ Mrg (stO ahead) A B i j o ∧ tv = .slice (some ⟨bt, f + (i + j), none⟩) (nA + nB - (i + j)) (ct - (i + j)) ∧ RowP wr bt (splice m f o) ∧ Slc wr (fun b => b ≠ bt) fv (nA - i) (ints (zL (A.drop i))) ∧ Slc wr (fun b => b ≠ bt) sv (nB - j) (ints (zL (B.drop j))) ∧ w.grownBy wr (some bt)) (fun tv _ _ _ => lenS tv)
  case atStart => exact ⟨0, 0, [], hpos, Nat.zero_le _, Nat.zero_le _, Mrg.start _ _ _, rfl, by rw [splice_nil]; exact HT0.out, HF0.out, HS0.out, grown_refl _ _⟩
  case round =>
    obtain ⟨i, j, o, hij, hi, hj, hM, rfl, hrow, hsF, hsS, hgr⟩ := hrel
    have hol := hM.len (by rw [HLA.out]; exact hi) (by rw [HLB.out]; exact hj)
    have HM := Lib.hid hM
    have HRW := Lib.hid hrow
    have HF := Lib.hid hsF
    have HS := Lib.hid hsS
    have HGR := Lib.hid hgr
    have HOL := Lib.hid hol
    clear HF0 HS0 HT0 hM hrow hgr hol
    obtain ⟨ao, cf, rfl, hcf1, hcf2, _⟩ := hsF.opened
    obtain ⟨so, cs, rfl, hcs1, hcs2, _⟩ := hsS.opened
    clear hsF hsS
    have hm1 : maxLen = 9223372036854775807 := by decide
    by_cases hin : i < nA
    · by_cases hjn : j < nB
      · obtain ⟨b1, o1, c1, x1, e9, hx1, hcx⟩ := Slc.at_map (Value.int .i64) (l := zL (A.drop i)) (by rw [zL_len, List.length_drop, HLA.out]; exact HF.out) 0 (by rw [zL_len, List.length_drop, HLA.out]; omega)
        rw [zL_len, List.length_drop, HLA.out] at e9
        cases e9
        obtain ⟨a, ha, rfl⟩ := zL_get hx1
        obtain ⟨b2, o2, c2, x2, e9, hx2, hcy⟩ := Slc.at_map (Value.int .i64) (l := zL (B.drop j)) (by rw [zL_len, List.length_drop, HLB.out]; exact HS.out) 0 (by rw [zL_len, List.length_drop, HLB.out]; omega)
        rw [zL_len, List.length_drop, HLB.out] at e9
        cases e9
        obtain ⟨b, hb, rfl⟩ := zL_get hx2
        rw [Nat.add_zero] at hcx hcy
        have HXA := Lib.hid (drop_get ha)
        have HXB := Lib.hid (drop_get hb)
        clear hx1 hx2 ha hb
        have hBr : Below g W0 wr := HW.out.grown HGR.out HGS.out (fun k hk => by cases hk; exact HG.out)
        have HBR := Lib.hid hBr
        clear hBr
        go_wp2_with fail
        --REGION1
        obtain ⟨W11, hWD⟩ : ∃ xw9, wr.drew = xw9 := ⟨_, rfl⟩
        have hB : Below wr.heap.size wr W11 := by rw [← hWD]; exact Below.drewN' (Below.refl _ _) 1
        replace hcx := keep_below hB _ _ hcx
        replace hcy := keep_below hB _ _ hcy
        replace HRW := Lib.hid (HRW.out.below hB)
        replace HF := Lib.hid (HF.out.below hB)
        replace HS := Lib.hid (HS.out.below hB)
        replace HBR := Lib.hid (HBR.out.trans (hB.mono (Nat.le_trans HGS.out HGR.out.size)))
        replace HGR := Lib.hid (grown_trans HGR.out (grown_any (below_grown hB) _))
        clear hB
        refine wp_region_held_drew (S := fun w' => w'.cell? ⟨b2, o2, none⟩ = some (.int .i64 (b : Int)) ∧ w'.cell? ⟨b1, o1, none⟩ = some (.int .i64 (a : Int))) (by kernel_rfl) (by rw [hWD]; exact ⟨hcy, hcx⟩) (fun hHeld => ?_)
        rw [hWD] at hHeld ⊢
        clear hWD
        refine wpAnyH_take (i := 0) (v := ?_) rfl (by kernel_rfl) (by kernel_rfl) (by kernel_rfl) (fun _ _ _ h => h) (Or.inl ⟨by rfl, ?_⟩) (by assumption) ?_
        rotate_left
        · (intro w hSw; (try dsimp only at hSw); go_simp; try with_reducible rfl)
        simp only [Act.put, List.getElem_toArray, List.getElem_cons_zero, List.setIfInBounds_toArray, List.set_cons_zero, List.set_cons_succ]
        refine wpAnyH_take (i := 1) (v := ?_) rfl (by kernel_rfl) (by kernel_rfl) (by kernel_rfl) (fun _ _ _ h => h) (Or.inl ⟨by rfl, ?_⟩) (by assumption) ?_
        rotate_left
        · (intro w hSw; (try dsimp only at hSw); go_simp; try with_reducible rfl)
        simp only [Act.put, List.getElem_toArray, List.getElem_cons_succ, List.getElem_cons_zero, List.setIfInBounds_toArray, List.set_cons_zero, List.set_cons_succ]
        refine wpAnyH_take (i := 2) (v := ?_) rfl (by kernel_rfl) (by kernel_rfl) (by kernel_rfl) (fun _ _ _ h => h) (Or.inl ⟨by rfl, ?_⟩) (by assumption) ?_
        rotate_left
        · (intro w hSw; (try dsimp only at hSw); go_simp; try with_reducible rfl)
        simp only [Act.put, List.getElem_toArray, List.getElem_cons_succ, List.getElem_cons_zero, List.setIfInBounds_toArray, List.set_cons_zero, List.set_cons_succ]
        refine wpAnyH_take (i := 3) (v := ?_) rfl (by kernel_rfl) (by kernel_rfl) (by kernel_rfl) (fun _ _ _ h => h) (Or.inl ⟨by rfl, ?_⟩) (by assumption) ?_
        rotate_left
        · (intro w hSw; (try dsimp only at hSw); go_simp; try with_reducible rfl)
        simp only [Act.put, List.getElem_toArray, List.getElem_cons_succ, List.getElem_cons_zero, List.setIfInBounds_toArray, List.set_cons_zero, List.set_cons_succ]
        refine wpAnyH_take (i := 4) (v := ?_) rfl (by kernel_rfl) (by kernel_rfl) (by kernel_rfl) (fun _ _ _ h => h) (Or.inl ⟨by rfl, ?_⟩) (by assumption) ?_
        rotate_left
        · (intro w hSw; (try dsimp only at hSw); go_simp; try with_reducible rfl)
        simp only [Act.put, List.getElem_toArray, List.getElem_cons_succ, List.getElem_cons_zero, List.setIfInBounds_toArray, List.set_cons_zero, List.set_cons_succ]
        refine wpAnyH_take (i := 5) (v := ?_) rfl (by kernel_rfl) (by kernel_rfl) (by kernel_rfl) (fun _ _ _ h => h) (Or.inl ⟨by rfl, ?_⟩) (by assumption) ?_
        rotate_left
        · (intro w hSw; (try dsimp only at hSw); go_simp; try with_reducible rfl)
        simp only [Act.put, List.getElem_toArray, List.getElem_cons_succ, List.getElem_cons_zero, List.setIfInBounds_toArray, List.set_cons_zero, List.set_cons_succ]
        refine wpAnyH_take (i := 6) (v := ?_) rfl (by kernel_rfl) (by kernel_rfl) (by kernel_rfl) (fun _ _ _ h => h) (Or.inl ⟨by rfl, ?_⟩) (by assumption) ?_
        rotate_left
        · (intro w hSw; (try dsimp only at hSw); go_simp; try with_reducible rfl)
        simp only [Act.put, List.getElem_toArray, List.getElem_cons_succ, List.getElem_cons_zero, List.setIfInBounds_toArray, List.set_cons_zero, List.set_cons_succ]
        refine wpAnyH_ready (rs := [7]) (by kernel_rfl) (by simp) ?_
        refine AllReadyH.cons (o := _) rfl (fun K' hK' => ?_) AllReadyH.nil
        clear hHeld
        have hKF := HKF.out
        go_simp
        clear hKF
        refine (HAH.out b a _ (HR.out.ltB b (List.mem_of_getElem? HXB.out)) (HR.out.ltA a (List.mem_of_getElem? HXA.out)) HBR.out).mono ?_
        rintro e W12 ⟨rfl, hB⟩
        replace hcx := keep_below hB _ _ hcx
        replace hcy := keep_below hB _ _ hcy
        replace HRW := Lib.hid (HRW.out.below hB)
        replace HF := Lib.hid (HF.out.below hB)
        replace HS := Lib.hid (HS.out.below hB)
        replace HBR := Lib.hid (HBR.out.trans (hB.mono (Nat.le_trans HGS.out HGR.out.size)))
        replace HGR := Lib.hid (grown_trans HGR.out (grown_any (below_grown hB) _))
        clear hB
        refine hK'.out _ _ ⟨hcy, hcx⟩ (fun hHeld => ?_)
        clear hK' K'
        refine wpAnyH_done (by kernel_rfl) ?_ _
        clear hHeld
        obtain ⟨c, hc⟩ : ∃ c, ahead b a = c := ⟨_, rfl⟩
        rw [hc]
        cases c
        · --ARM first goes
          have hct1 : ¬ (ct - (i + j) = 1) := by omega
          have HC := Lib.hid hc
          have hrf := HRW.out.free (f + (i + j))
          have hsl := splice_len m f o (by rw [HOL.out]; omega)
          obtain ⟨xx, hxx⟩ : ∃ xx, (splice m f o)[f + (i + j)]? = some xx := ⟨_, List.getElem?_eq_getElem (by rw [hsl]; omega)⟩
          have hrx := HRW.out.cell hxx
          clear hxx hc hsl
          by_cases hcap : cf = 1
          · have HRS := Lib.hid ((run_rest HF.out (by omega)).1 hcap)
            go_wp2
            go_region
            go_wp2
            go_roundw
            case rel =>
              refine ⟨i + 1, j, o ++ [a], by omega, by omega, by omega, HR.out.takeA HM.out HXA.out HXB.out HC.out, slice_eqN (by omega) (by omega) (by omega), ?_, (by rw [show nA - (i + 1) = nA - i - 1 by omega, ← List.drop_drop]; exact (HRS.out.keep (Kept.setCell _ _ _ (by simp)) (fun _ _ h => h))), (HS.out.keep (Kept.setCell _ _ _ (by simp)) (fun _ _ h => h)), grown_drew (grown_trans HGR.out (grown_setCell _ ⟨bt, f + (i + j), none⟩ _))⟩
              have h9 := HRW.out.set (f + (i + j)) a
              rw [← HOL.out, splice_set m f o _ (by rw [HOL.out]; omega)] at h9
              rw [← HOL.out]
              exact h9
            case measure => simp [lenS]; omega
          · have HRS := Lib.hid ((run_rest HF.out (by omega)).2 hcap)
            go_wp2
            go_region
            go_wp2
            go_roundw
            case rel =>
              refine ⟨i + 1, j, o ++ [a], by omega, by omega, by omega, HR.out.takeA HM.out HXA.out HXB.out HC.out, slice_eqN (by omega) (by omega) (by omega), ?_, (by rw [show nA - (i + 1) = nA - i - 1 by omega, ← List.drop_drop]; exact (HRS.out.keep (Kept.setCell _ _ _ (by simp)) (fun _ _ h => h))), (HS.out.keep (Kept.setCell _ _ _ (by simp)) (fun _ _ h => h)), grown_drew (grown_trans HGR.out (grown_setCell _ ⟨bt, f + (i + j), none⟩ _))⟩
              have h9 := HRW.out.set (f + (i + j)) a
              rw [← HOL.out, splice_set m f o _ (by rw [HOL.out]; omega)] at h9
              rw [← HOL.out]
              exact h9
            case measure => simp [lenS]; omega
        · --ARM second goes
          have hct1 : ¬ (ct - (i + j) = 1) := by omega
          have HC := Lib.hid hc
          have hrf := HRW.out.free (f + (i + j))
          have hsl := splice_len m f o (by rw [HOL.out]; omega)
          obtain ⟨xx, hxx⟩ : ∃ xx, (splice m f o)[f + (i + j)]? = some xx := ⟨_, List.getElem?_eq_getElem (by rw [hsl]; omega)⟩
          have hrx := HRW.out.cell hxx
          clear hxx hc hsl
          by_cases hcap : cs = 1
          · have HRS := Lib.hid ((run_rest HS.out (by omega)).1 hcap)
            go_wp2
            go_region
            go_wp2
            go_roundw
            case rel =>
              refine ⟨i, j + 1, o ++ [b], by omega, by omega, by omega, HR.out.takeB HM.out HXA.out HXB.out HC.out, slice_eqN (by omega) (by omega) (by omega), ?_, (HF.out.keep (Kept.setCell _ _ _ (by simp)) (fun _ _ h => h)), (by rw [show nB - (j + 1) = nB - j - 1 by omega, ← List.drop_drop]; exact (HRS.out.keep (Kept.setCell _ _ _ (by simp)) (fun _ _ h => h))), grown_drew (grown_trans HGR.out (grown_setCell _ ⟨bt, f + (i + j), none⟩ _))⟩
              have h9 := HRW.out.set (f + (i + j)) b
              rw [← HOL.out, splice_set m f o _ (by rw [HOL.out]; omega)] at h9
              rw [← HOL.out]
              exact h9
            case measure => simp [lenS]; omega
          · have HRS := Lib.hid ((run_rest HS.out (by omega)).2 hcap)
            go_wp2
            go_region
            go_wp2
            go_roundw
            case rel =>
              refine ⟨i, j + 1, o ++ [b], by omega, by omega, by omega, HR.out.takeB HM.out HXA.out HXB.out HC.out, slice_eqN (by omega) (by omega) (by omega), ?_, (HF.out.keep (Kept.setCell _ _ _ (by simp)) (fun _ _ h => h)), (by rw [show nB - (j + 1) = nB - j - 1 by omega, ← List.drop_drop]; exact (HRS.out.keep (Kept.setCell _ _ _ (by simp)) (fun _ _ h => h))), grown_drew (grown_trans HGR.out (grown_setCell _ ⟨bt, f + (i + j), none⟩ _))⟩
              have h9 := HRW.out.set (f + (i + j)) b
              rw [← HOL.out, splice_set m f o _ (by rw [HOL.out]; omega)] at h9
              rw [← HOL.out]
              exact h9
            case measure => simp [lenS]; omega
      · --ONLY THE FIRST RUN
        obtain ⟨p, hp⟩ : ∃ p, nA - i = p := ⟨_, rfl⟩
        have e1 : nA + nB - (i + j) = p := by omega
        have e2 : nB - j = 0 := by omega
        have hLL : (splice m f o).length = m.length := splice_len m f o (by rw [HOL.out]; omega)
        obtain ⟨d, hd⟩ : ∃ d, ct - (i + j) = d := ⟨_, rfl⟩
        rw [e1, hd]
        rw [hp] at HF hcf1 ⊢
        rw [e2] at HS hcs1 ⊢
        obtain ⟨c8, hc8⟩ : ∃ c8, ints (zL (A.drop i)) = c8 := ⟨_, rfl⟩
        have hcl : c8.length = p := by rw [← hc8, ints_len, zL_len, List.length_drop, HLA.out]; exact hp
        have HCN := Lib.hid (show c8.length = Nat.min p p by rw [hcl]; simp)
        have HCP := Lib.hid (show 0 < c8.length → ∃ ad, ao = some ad ∧ ∀ j v, c8[j]? = some v → wr.cell? (ad.add j) = some v from fun h => by rw [← hc8] at h ⊢; exact places_at HF.out h)
        have HCF := Lib.hid (show (f + (i + j)) + c8.length ≤ (ints (zL (splice m f o))).length by rw [hcl, ints_len, zL_len, hLL]; omega)
        have HC1 := Lib.hid (show ∀ v ∈ c8, v.oneCell' = true by rw [← hc8]; exact places_one _)
        have HC8 := Lib.hid hc8
        have HCL := Lib.hid hcl
        have HE := Lib.hid (show ∃ q, q.Perm (A ++ B) ∧ q.Pairwise (fun x y => stO ahead x y = true) ∧ q = o ++ A.drop i from by
          have h8 := HM.out.left HR.out.weak.tot HR.out.ltA HR.out.ltB HR.out.soA HR.out.soB (by rw [HLA.out]; exact hi) (by rw [HLB.out]; omega)
          obtain ⟨h6, h7⟩ := h8.ends (Nat.le_refl _) (by rw [HLB.out]; omega)
          exact ⟨_, h6, h7, rfl⟩)
        have HPE := Lib.hid (show nA - i = p from hp)
        have HF9 := Lib.hid (show f + o.length + (A.drop i).length ≤ m.length by rw [HOL.out, List.length_drop, HLA.out]; omega)
        have hd0 : ¬ (d = 0) := by omega
        have hjn0 : ¬ (0 < nB - j) := by omega
        clear hc8 hcl hLL e1 e2
        by_cases hpd : p = d
        · subst hpd
          go_wp2_with (first | ((with_reducible show wpList _ _ _ ({ dst := some 43, op := _, type := _, pos := _, after := _, guard := _ } :: _) _ _); go_must (refine wpList_copy_put rfl (.tmp 41) (.tmp 42) 24 24 rfl 3 Tryz.underlying24 size_int18 _ _ _ _ _ _ rfl rfl bt (f + (i + j)) (ints (zL (splice m f o))) 3 HRW.out c8 HCN.out (fun h => ⟨rfl, HCP.out h⟩) HCF.out HC1.out ?_); intro w8 HQ8 HG8; rw [HCL.out]) | ((with_reducible show wpList _ _ _ ({ dst := some 46, op := _, type := _, pos := _, after := _, guard := _ } :: _) _ _); go_must (refine wpList_copy_put rfl (.tmp 44) (.tmp 45) 24 24 rfl 3 Tryz.underlying24 size_int18 _ _ _ _ _ _ rfl rfl bt 0 (splice (ints (zL (splice m f o))) (f + (i + j)) c8) 3 HQ8.out [] (by simp) (fun h => absurd h (by simp)) (by simp) (fun v h => absurd h (by simp)) ?_); intro w9 HQ9 HG9))
          go_end0
          obtain ⟨q, h6, h7, rfl⟩ := HE.out
          refine ⟨rfl, _, h6, h7, ?_, grown_trans (grown_trans HGR.out HG8.out) HG9.out⟩
          have h9 := HQ9.out
          rw [splice_nil, ← HC8.out, ← splice_rows, ← HOL.out, splice_more m f o _ HF9.out] at h9
          exact h9
        · go_wp2_with (first | ((with_reducible show wpList _ _ _ ({ dst := some 43, op := _, type := _, pos := _, after := _, guard := _ } :: _) _ _); go_must (refine wpList_copy_put rfl (.tmp 41) (.tmp 42) 24 24 rfl 3 Tryz.underlying24 size_int18 _ _ _ _ _ _ rfl rfl bt (f + (i + j)) (ints (zL (splice m f o))) 3 HRW.out c8 HCN.out (fun h => ⟨rfl, HCP.out h⟩) HCF.out HC1.out ?_); intro w8 HQ8 HG8; rw [HCL.out]) | ((with_reducible show wpList _ _ _ ({ dst := some 46, op := _, type := _, pos := _, after := _, guard := _ } :: _) _ _); go_must (refine wpList_copy_put rfl (.tmp 44) (.tmp 45) 24 24 rfl 3 Tryz.underlying24 size_int18 _ _ _ _ _ _ rfl rfl bt 0 (splice (ints (zL (splice m f o))) (f + (i + j)) c8) 3 HQ8.out [] (by simp) (fun h => absurd h (by simp)) (by simp) (fun v h => absurd h (by simp)) ?_); intro w9 HQ9 HG9))
          go_end0
          obtain ⟨q, h6, h7, rfl⟩ := HE.out
          refine ⟨rfl, _, h6, h7, ?_, grown_trans (grown_trans HGR.out HG8.out) HG9.out⟩
          have h9 := HQ9.out
          rw [splice_nil, ← HC8.out, ← splice_rows, ← HOL.out, splice_more m f o _ HF9.out] at h9
          exact h9
    · --ONLY THE SECOND RUN
      obtain ⟨p, hp⟩ : ∃ p, nB - j = p := ⟨_, rfl⟩
      have e1 : nA + nB - (i + j) = p := by omega
      have e2 : nA - i = 0 := by omega
      have hLL : (splice m f o).length = m.length := splice_len m f o (by rw [HOL.out]; omega)
      obtain ⟨d, hd⟩ : ∃ d, ct - (i + j) = d := ⟨_, rfl⟩
      rw [e1, hd]
      rw [hp] at HS hcs1 ⊢
      rw [e2] at HF hcf1 ⊢
      obtain ⟨c8, hc8⟩ : ∃ c8, ints (zL (B.drop j)) = c8 := ⟨_, rfl⟩
      have hcl : c8.length = p := by rw [← hc8, ints_len, zL_len, List.length_drop, HLB.out]; exact hp
      have HCN := Lib.hid (show c8.length = Nat.min p p by rw [hcl]; simp)
      have HCP := Lib.hid (show 0 < c8.length → ∃ ad, so = some ad ∧ ∀ j v, c8[j]? = some v → wr.cell? (ad.add j) = some v from fun h => by rw [← hc8] at h ⊢; exact places_at HS.out h)
      have HCQ := Lib.hid (show ∀ wx : World, wr.grownBy wx (some bt) → 0 < c8.length → ∃ ad, so = some ad ∧ ∀ j v, c8[j]? = some v → wx.cell? (ad.add j) = some v from fun wx hgx h => by rw [← hc8] at h ⊢; exact places_at (Slc.grownBy HS.out hgx) h)
      have HCF := Lib.hid (show (f + (i + j)) + c8.length ≤ (splice (ints (zL (splice m f o))) 0 []).length by rw [splice_nil, hcl, ints_len, zL_len, hLL]; omega)
      have HC1 := Lib.hid (show ∀ v ∈ c8, v.oneCell' = true by rw [← hc8]; exact places_one _)
      have HC8 := Lib.hid hc8
      have HCL := Lib.hid hcl
      have HE := Lib.hid (show ∃ q, q.Perm (A ++ B) ∧ q.Pairwise (fun x y => stO ahead x y = true) ∧ q = o ++ B.drop j from by
        have h8 := (HM.out.swap.left HR.out.weak.tot HR.out.ltB HR.out.ltA HR.out.soB HR.out.soA (by rw [HLB.out]; exact hj) (by rw [HLA.out]; omega)).swap
        obtain ⟨h6, h7⟩ := h8.ends (by rw [HLA.out]; omega) (Nat.le_refl _)
        exact ⟨_, h6, h7, rfl⟩)
      have HPE := Lib.hid (show nB - j = p from hp)
      have HF9 := Lib.hid (show f + o.length + (B.drop j).length ≤ m.length by rw [HOL.out, List.length_drop, HLB.out]; omega)
      have hd0 : ¬ (d = 0) := by omega
      have hjn0 : ¬ (0 < nA - i) := by omega
      clear hc8 hcl hLL e1 e2
      by_cases hpd : p = d
      · subst hpd
        go_wp2_with (first | ((with_reducible show wpList _ _ _ ({ dst := some 43, op := _, type := _, pos := _, after := _, guard := _ } :: _) _ _); go_must (refine wpList_copy_put rfl (.tmp 41) (.tmp 42) 24 24 rfl 3 Tryz.underlying24 size_int18 _ _ _ _ _ _ rfl rfl bt 0 (ints (zL (splice m f o))) 3 HRW.out [] (by simp) (fun h => absurd h (by simp)) (by simp) (fun v h => absurd h (by simp)) ?_); intro w8 HQ8 HG8) | ((with_reducible show wpList _ _ _ ({ dst := some 46, op := _, type := _, pos := _, after := _, guard := _ } :: _) _ _); go_must (refine wpList_copy_put rfl (.tmp 44) (.tmp 45) 24 24 rfl 3 Tryz.underlying24 size_int18 _ _ _ _ _ _ rfl rfl bt (f + (i + j)) (splice (ints (zL (splice m f o))) 0 []) 3 HQ8.out c8 HCN.out (fun h => ⟨rfl, HCQ.out _ HG8.out h⟩) HCF.out HC1.out ?_); intro w9 HQ9 HG9))
        go_end0
        obtain ⟨q, h6, h7, rfl⟩ := HE.out
        refine ⟨rfl, _, h6, h7, ?_, grown_trans (grown_trans HGR.out HG8.out) HG9.out⟩
        have h9 := HQ9.out
        rw [splice_nil, ← HC8.out, ← HOL.out, ← splice_rows, splice_more m f o _ HF9.out] at h9
        exact h9
      · go_wp2_with (first | ((with_reducible show wpList _ _ _ ({ dst := some 43, op := _, type := _, pos := _, after := _, guard := _ } :: _) _ _); go_must (refine wpList_copy_put rfl (.tmp 41) (.tmp 42) 24 24 rfl 3 Tryz.underlying24 size_int18 _ _ _ _ _ _ rfl rfl bt 0 (ints (zL (splice m f o))) 3 HRW.out [] (by simp) (fun h => absurd h (by simp)) (by simp) (fun v h => absurd h (by simp)) ?_); intro w8 HQ8 HG8) | ((with_reducible show wpList _ _ _ ({ dst := some 46, op := _, type := _, pos := _, after := _, guard := _ } :: _) _ _); go_must (refine wpList_copy_put rfl (.tmp 44) (.tmp 45) 24 24 rfl 3 Tryz.underlying24 size_int18 _ _ _ _ _ _ rfl rfl bt (f + (i + j)) (splice (ints (zL (splice m f o))) 0 []) 3 HQ8.out c8 HCN.out (fun h => ⟨rfl, HCQ.out _ HG8.out h⟩) HCF.out HC1.out ?_); intro w9 HQ9 HG9))
        go_end0
        obtain ⟨q, h6, h7, rfl⟩ := HE.out
        refine ⟨rfl, _, h6, h7, ?_, grown_trans (grown_trans HGR.out HG8.out) HG9.out⟩
        have h9 := HQ9.out
        rw [splice_nil, ← HC8.out, ← HOL.out, ← splice_rows, splice_more m f o _ HF9.out] at h9
        exact h9
end Go.Proofs.YtbdbpamefkgelaaGreatDoor
