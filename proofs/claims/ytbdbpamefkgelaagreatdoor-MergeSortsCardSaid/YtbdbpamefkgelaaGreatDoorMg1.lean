/- Layer 18's law: MergeSorts. -/
import Derived.Test.YtbdbpamefkgelaaGreatDoorMgMg1
import Derived.Test.YtbdbpamefkgelaaGreatDoorMgRx1
namespace Go.Proofs.YtbdbpamefkgelaaGreatDoor
set_option maxRecDepth 100000
open Go.RowKit Fl
set_option linter.unusedVariables false

theorem r18grade_n {ok : Nat → Prop} (v : Value) (keys : List Nat) (n : Nat) (w : World) (hv : Slc w ok v n (u8m keys)) (hn : keys.length = n) (hm : n ≤ 300) :
    Calls Tryz.prog 11 #[v] w fun e w' => ∃ v, e = .returned v ∧ Slc w' (fun b => w.heap.size ≤ b) v n (ints (zL (grN n (lesK (keyE keys) 1 false) n))) ∧ Below w.heap.size w w' := by
  subst hn
  exact r18grade_calls v keys w hv (by omega)
set_option maxHeartbeats 16000000 in
theorem mergeSorts_walk (vk : Value) (keys : List Nat) (w : World) (hvk : Slc w (fun _ => True) vk keys.length (u8m keys)) (hm1 : keys.length ≤ maxLen) (hT : TabAt w) :
    Calls Tryz.prog 3 #[vk] w (Yes18 w) := by
  obtain ⟨ak, ck, rfl, _⟩ := hvk.opened
  obtain ⟨n, hn⟩ : ∃ n, keys.length = n := ⟨_, rfl⟩
  have HN := Lib.hid hn
  rw [hn] at hvk hm1 ⊢
  obtain ⟨W1, hW1⟩ : ∃ W1, W1 = w.alloc (.cells #[.slice ak n ck] 22) := ⟨_, rfl⟩
  have HB := Lib.hid (show Below w.heap.size w W1 by rw [hW1]; exact below_new _ _)
  have HA := Lib.hid (show At1 W1 w.heap.size (.slice ak n ck) by rw [hW1]; exact At1.new w _ _)
  have HK := Lib.hid (hvk.below HB.out)
  have HT := Lib.hid (show TabAt W1 from fun j hj => keep_below HB.out _ _ (hT j hj))
  have hfold := hW1.symm
  clear hvk hT hn hW1
  by_cases g1 : 300 < n
  · have cHA0 := HA.out.2.1
    go_enter Tryz.func3, Tryz.ntmps3
    go_wp2_with fail
    clear hfold
    refine (awake18_calls _ HT.out).mono ?_
    rintro e W11 ⟨rfl, hB⟩
    clear cHA0
    replace HA := Lib.hid (HA.out.below hB)
    replace HB := Lib.hid (HB.out.trans (hB.mono HB.out.size))
    replace HK := Lib.hid (HK.out.below hB)
    replace HT := Lib.hid (fun j hj => keep_below hB _ _ (HT.out j hj))
    clear hB
    have cHA0 := HA.out.2.1
    go_wp2_with fail
    go_ret
    exact ⟨rfl, HB.out⟩
  · have HM := Lib.hid (show n ≤ 300 by omega)
    have cHA0 := HA.out.2.1
    go_enter Tryz.func3, Tryz.ntmps3
    go_wp2_with fail
    clear hfold
    refine (mgsort_keys _ _ keys n _ HA.out HK.out HN.out HM.out).mono ?_
    rintro e W11 ⟨v1, rfl, hv1, hB⟩
    clear cHA0
    replace HA := Lib.hid (HA.out.below hB)
    replace HB := Lib.hid (HB.out.trans (hB.mono HB.out.size))
    replace HK := Lib.hid (HK.out.below hB)
    replace HT := Lib.hid (fun j hj => keep_below hB _ _ (HT.out j hj))
    have H1 := Lib.hid hv1
    obtain ⟨a1, c1, rfl, _⟩ := hv1.opened
    clear hv1
    clear hB
    have cHA0 := HA.out.2.1
    go_wp2_with fail
    refine (r18grade_n _ keys n _ HK.out HN.out HM.out).mono ?_
    rintro e W12 ⟨v2, rfl, hv2, hB⟩
    clear cHA0
    replace HA := Lib.hid (HA.out.below hB)
    replace HB := Lib.hid (HB.out.trans (hB.mono HB.out.size))
    replace HK := Lib.hid (HK.out.below hB)
    replace HT := Lib.hid (fun j hj => keep_below hB _ _ (HT.out j hj))
    replace H1 := Lib.hid (H1.out.below hB)
    have H2 := Lib.hid hv2
    obtain ⟨a2, c2, rfl, _⟩ := hv2.opened
    clear hv2
    clear hB
    have cHA0 := HA.out.2.1
    go_wp2_with fail
    refine (ints_eq _ _ _ n _ H1.out H2.out (by rw [zL_len, grN_len]) (by have := HM.out; omega)).mono ?_
    rintro e W13 ⟨rfl, hB⟩
    clear cHA0
    replace HA := Lib.hid (HA.out.below hB)
    replace HB := Lib.hid (HB.out.trans (hB.mono HB.out.size))
    replace HK := Lib.hid (HK.out.below hB)
    replace HT := Lib.hid (fun j hj => keep_below hB _ _ (HT.out j hj))
    replace H1 := Lib.hid (H1.out.below hB)
    replace H2 := Lib.hid (H2.out.below hB)
    clear hB
    have cHA0 := HA.out.2.1
    go_wp2_with fail
    refine (awake18_calls _ HT.out).mono ?_
    rintro e W14 ⟨rfl, hB⟩
    clear cHA0
    replace HA := Lib.hid (HA.out.below hB)
    replace HB := Lib.hid (HB.out.trans (hB.mono HB.out.size))
    replace HK := Lib.hid (HK.out.below hB)
    replace HT := Lib.hid (fun j hj => keep_below hB _ _ (HT.out j hj))
    replace H1 := Lib.hid (H1.out.below hB)
    replace H2 := Lib.hid (H2.out.below hB)
    clear hB
    have cHA0 := HA.out.2.1
    go_wp2_with fail
    go_ret
    exact ⟨rfl, HB.out⟩

theorem mergeSorts_frame (w : World) (vk : Value) (keys : List Int) (hr1 : RowC w vk (keys.map (Value.int .u8))) (hz1 : ∀ z ∈ keys, (Lit.int .u8 z).wf = true) (hm1 : keys.length ≤ maxLen) (hT : TabAt w) :
    Calls Tryz.prog 3 #[vk] w fun e w' => e = .returned (.bool true) ∧ Below w.heap.size w w' := by
  have s1 := hr1.slc
  rw [List.length_map, show keys.map (Value.int .u8) = u8m (keys.map Int.toNat) by
    unfold u8m; rw [List.map_map]
    exact List.map_congr_left fun z hz => by have := bounds_u8 (hz1 z hz); simp only [Function.comp]; rw [Int.toNat_of_nonneg this.1]] at s1
  exact mergeSorts_walk vk (keys.map Int.toNat) w (by rw [List.length_map]; exact s1) (by rw [List.length_map]; exact hm1) hT
end Go.Proofs.YtbdbpamefkgelaaGreatDoor
