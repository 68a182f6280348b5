/- trouble.Show over a chain, and TroubleShows: the walk of the law. -/
import Derived.Test.YtnionifbhmfkoaaDoorTrN
import Derived.Test.YtnionifbhmfkoaaDoorTrP
import Derived.Lib.Repeat
import Derived.Deep.RegionWith
namespace Go.Proofs.YtnionifbhmfkoaaDoor
open Go.RowKit Go.Extern.Stop Go.Stop Go.Extern
set_option maxRecDepth 100000

theorem runesBytes_enc (zs : List Int) : runesBytes zs = ⟨(encL zs).toArray⟩ := by
  have h : ∀ (l : List Int) (s : ByteArray), (l.foldl (fun r n => r ++ Utf8.encode n) s).data.toList = s.data.toList ++ encL l := by
    intro l
    induction l with
    | nil => intro s; simp [encL]
    | cons z l ih => intro s; simp only [List.foldl_cons, ih]; simp [encL, ByteArray.data_append]
  refine bs_eq ?_
  have := h zs ByteArray.empty
  simpa [runesBytes] using this

theorem convert_zero (ao : Option Addr) (c : Nat) (w : World) : (convert 52 9 (.slice ao 0 c)).run Tryd.prog w = .ok (.string (runesBytes [])) w := by
  cases ao with
  | none => exact run_convert_runes_nil w 52 9 21 0 c Tryd.underlying52 Tryd.underlying21 Tryd.underlying9
  | some a => exact run_convert_runes w 52 9 21 a 0 c [] (Nat.le_refl _) Tryd.underlying52 Tryd.underlying21 Tryd.underlying9 (fun j h => absurd h (by simp))
theorem sub_convert (v : Value) (zs : List Int) (w : World) (hv : RowC w v (zs.map (Value.int .i32))) (f t : Nat) (hft : f ≤ t) (ht : t ≤ zs.length) :
    ∃ ao cap ao' c', v = .slice ao zs.length cap ∧ (∀ w' : World, (Instr.slice 52 (.slice ao zs.length cap) (some (.int .i64 f)) (some (.int .i64 t)) none).run Tryd.prog w' = .ok (.slice ao' (t - f) c') w') ∧
      ∀ w', Kept w w' → (convert 52 9 (.slice ao' (t - f) c')).run Tryd.prog w' = .ok (.string ⟨(encL (seg zs f t)).toArray⟩) w' := by
  obtain ⟨hr, ao, cap, rfl, hcap, hcm⟩ := hv
  simp only [List.length_map] at hcap ⊢
  have hsz : ∀ w' : World, (sizeOf (Tryd.prog.elem 52)).run Tryd.prog w' = .ok 1 w' := fun w' => by kernel_rfl
  have hu : Tryd.prog.underlying 52 = some (.slice (Tryd.prog.elem 52)) := by kernel_rfl
  have hsl := fun w' => run_slice_lh (P := Tryd.prog) w' 52 ao zs.length cap hu .i64 .i64 (f : Int) (t : Int) (by omega) (by omega) (by omega)
  refine ⟨ao, cap, _, _, rfl, fun w' => by rw [hsl, hsz]; simp only [Result.andThen, sliced, Int.toNat_natCast, Nat.mul_one]; rfl, fun w' hk => ?_⟩
  rw [← runesBytes_enc]
  by_cases he : f = t
  · subst he
    rw [seg_nil, Nat.sub_self]
    exact convert_zero _ _ w'
  · rcases hr with ⟨ao', cap', h0, _⟩ | ⟨b, off, cap', h0, hv, hc⟩
    · have : zs = [] := by simpa using h0
      subst this
      simp at ht; omega
    · simp only [Value.slice.injEq] at hv
      obtain ⟨rfl, _, rfl⟩ := hv
      rw [if_neg (by omega)]
      simp only [Option.map_some]
      rw [Go.WideShapes.add_plain]
      have hseg : seg zs f t = (zs.drop f).take (t - f) := rfl
      rw [hseg]
      refine run_convert_runes w' 52 9 21 ⟨b, off + f, none⟩ (t - f) _ (zs.drop f) (by simp; omega) Tryd.underlying52 Tryd.underlying21 Tryd.underlying9 (fun j hj => ?_)
      simp only [List.length_drop] at hj
      rw [Go.WideShapes.add_plain]
      have h1 := hk _ _ (hc (f + j) (by simp; omega))
      rw [Nat.add_assoc, h1]
      simp [List.getElem?_drop, (by omega : f + j < zs.length)]

set_option maxHeartbeats 1000000 in
theorem show_nil (v : Value) (w : World) : Calls Tryd.prog 26 #[.nilIface, v] w fun e w' => e = .returned (.string ⟨#[]⟩) ∧ w = w' := by
  go_enter Tryd.func26, Tryd.ntmps26
  go_wp2_with (go_at_call 30; refine (none_nil _).mono ?_; rintro e w' ⟨rfl, rfl⟩)
  go_ret
  exact ⟨rfl, rfl⟩

theorem repeat_sp (k : Nat) : (⟨(Lib.repeatL (⟨#[32]⟩ : ByteArray).data.toList k).toArray⟩ : ByteArray) = ⟨(List.replicate k (32 : UInt8)).toArray⟩ := by
  refine bs_eq ?_
  induction k with
  | zero => rfl
  | succ k ih => simpa [Lib.repeatL, List.replicate_succ] using ih

set_option maxHeartbeats 2000000 in
/-- Show up to the test of the place. -/
theorem show_bad (c a : Int) (bt : Nat) (ns : List ByteArray) (u : Value) (v : Value) (zs : List Int) (w : World) (hc : (c == 0) = false) (hg : Laid w) (hch : Chain w c a bt ns u) (hv : RowC w v (zs.map (Value.int .i32))) (hm : zs.length ≤ maxLen)
    (hb : a < 0 ∨ zs.length < a ∨ 4096 < zs.length) :
    Calls Tryd.prog 26 #[u, v] w fun e w' => e = .returned (.string (wordB c ++ ⟨#[10]⟩)) ∧ Below w.heap.size w w' := by
  unfold maxLen at hm
  obtain ⟨ao, cap, rfl, _⟩ := hv.1.runes
  obtain ⟨tu, vu, rfl, hnone⟩ := hch.ne_nil
  have HN := Lib.hid hnone
  have HG := Lib.hid hg
  have HC := Lib.hid hch
  have hwl := wordB_len c
  clear hg hch hv hnone
  by_cases h1 : a < 0
  · clear hb
    go_enter Tryd.func26, Tryd.ntmps26
    go_wp2_with fail
    refine (HN.out).mono ?_
    rintro e w0 ⟨rfl, rfl⟩
    go_wp2_with fail
    refine (Of_calls c bt _ _ w hc HG.out HC.out.link).mono ?_
    rintro e w1 ⟨rfl, hB⟩
    have HB1 := Lib.hid hB
    clear hB
    go_wp2_with fail
    refine (word_calls c _).mono ?_
    rintro e w2 ⟨rfl, rfl⟩
    go_wp2_with fail
    refine (At_calls c a bt _ _ w1 (by simp) (HG.out.below HB1.out) (HC.out.keep (keep_below HB1.out)).link (keep_below HB1.out _ _ HC.out.at')).mono ?_
    rintro e w2 ⟨rfl, hB⟩
    have HB2 := Lib.hid (bthen HB1.out hB)
    clear hB
    go_wp2
    go_ret
    exact ⟨rfl, HB2.out⟩
  · by_cases h2 : (zs.length : Int) < a
    · clear hb
      go_enter Tryd.func26, Tryd.ntmps26
      go_wp2_with fail
      refine (HN.out).mono ?_
      rintro e w0 ⟨rfl, rfl⟩
      go_wp2_with fail
      refine (Of_calls c bt _ _ w hc HG.out HC.out.link).mono ?_
      rintro e w1 ⟨rfl, hB⟩
      have HB1 := Lib.hid hB
      clear hB
      go_wp2_with fail
      refine (word_calls c _).mono ?_
      rintro e w2 ⟨rfl, rfl⟩
      go_wp2_with fail
      refine (At_calls c a bt _ _ w1 (by simp) (HG.out.below HB1.out) (HC.out.keep (keep_below HB1.out)).link (keep_below HB1.out _ _ HC.out.at')).mono ?_
      rintro e w2 ⟨rfl, hB⟩
      have HB2 := Lib.hid (bthen HB1.out hB)
      clear hB
      go_wp2
      go_ret
      exact ⟨rfl, HB2.out⟩
    · have h3 : 4096 < zs.length := by omega
      clear hb
      go_enter Tryd.func26, Tryd.ntmps26
      go_wp2_with fail
      refine (HN.out).mono ?_
      rintro e w0 ⟨rfl, rfl⟩
      go_wp2_with fail
      refine (Of_calls c bt _ _ w hc HG.out HC.out.link).mono ?_
      rintro e w1 ⟨rfl, hB⟩
      have HB1 := Lib.hid hB
      clear hB
      go_wp2_with fail
      refine (word_calls c _).mono ?_
      rintro e w2 ⟨rfl, rfl⟩
      go_wp2_with fail
      refine (At_calls c a bt _ _ w1 (by simp) (HG.out.below HB1.out) (HC.out.keep (keep_below HB1.out)).link (keep_below HB1.out _ _ HC.out.at')).mono ?_
      rintro e w2 ⟨rfl, hB⟩
      have HB2 := Lib.hid (bthen HB1.out hB)
      clear hB
      go_wp2
      go_ret
      exact ⟨rfl, HB2.out⟩

set_option maxHeartbeats 4000000 in
theorem show_good (c : Int) (k : Nat) (bt : Nat) (ns : List ByteArray) (u : Value) (v : Value) (zs : List Int) (w : World) (hc : (c == 0) = false) (hg : Laid w) (hch : Chain w c k bt ns u) (hv : RowC w v (zs.map (Value.int .i32))) (hk : k ≤ zs.length) (hm : zs.length ≤ 4096) :
    Calls Tryd.prog 26 #[u, v] w fun e w' => e = .returned (.string ⟨(showL c zs k).toArray⟩) ∧ Below w.heap.size w w' := by
  have h1 := lst_le zs k
  have h2 := lend_ge zs k
  have h3 := lend_le zs k hk
  have HR := Lib.hid hv.1
  obtain ⟨ao, cap, ao', c', rfl, hsl, hcv⟩ := sub_convert v zs w hv (lst zs k) (lend zs k) (by omega) h3
  have HCV := Lib.hid hcv
  have HSL := Lib.hid hsl
  obtain ⟨tu, vu, rfl, hnone⟩ := hch.ne_nil
  have HN := Lib.hid hnone
  have HG := Lib.hid hg
  have HC := Lib.hid hch
  have hwl := wordB_len c
  have hk' : (k : Int) ≤ zs.length := by omega
  have b1 : (encL (seg zs (lst zs k) (lend zs k))).length ≤ 16384 := Nat.le_trans (encL_len _) (by have := seg_len zs (lst zs k) (lend zs k); omega)
  clear hg hch hv hnone hcv hsl
  go_enter Tryd.func26, Tryd.ntmps26
  go_wp2_with fail
  refine (HN.out).mono ?_
  rintro e w0 ⟨rfl, rfl⟩
  go_wp2_with fail
  refine (Of_calls c bt _ _ w hc HG.out HC.out.link).mono ?_
  rintro e w1 ⟨rfl, hB⟩
  have HB1 := Lib.hid hB
  clear hB
  go_wp2_with fail
  refine (word_calls c _).mono ?_
  rintro e w2 ⟨rfl, rfl⟩
  go_wp2_with fail
  refine (At_calls c k bt _ _ w1 (by simp) (HG.out.below HB1.out) (HC.out.keep (keep_below HB1.out)).link (keep_below HB1.out _ _ HC.out.at')).mono ?_
  rintro e w2 ⟨rfl, hB⟩
  have HB2 := Lib.hid (bthen HB1.out hB)
  clear hB
  go_wp2_with fail
  refine (line_calls _ zs k w2 (HR.out.keep (keep_below HB2.out)) (Nat.le_trans hm (by decide)) hk).mono ?_
  rintro e w3 ⟨rfl, rfl⟩
  have hwr : IntKind.i64.wrap ((k : Int) - (lst zs k : Int)) = ((k - lst zs k : Nat) : Int) := by rw [IntWalk.i64_in _ (by omega)]; omega
  have hc0 := HCV.out _ (keep_below HB2.out)
  have hs0 := HSL.out
  have b2 : (List.replicate (k - lst zs k) (32 : UInt8)).length ≤ 4096 := by simp; omega
  go_wp2_with fail
  have hcd := HCV.out w2.drew (keep_below HB2.out.drew)
  clear hc0
  go_region_with (go_at_call 41; refine (Tryd.strings_Repeat ⟨#[32]⟩ (k - lst zs k) _ (by omega) (by show 1 * _ ≤ _; omega)).mono ?_; rw [repeat_sp]; rintro e w' ⟨rfl, hB⟩; have hcw := HCV.out _ (keep_below (bthen HB2.out.drew hB)); have HB3 := Lib.hid (bthen HB2.out.drew hB); clear hB)
  all_goals go_wp2
  all_goals go_ret
  all_goals exact ⟨ret_s (by simp [showL, wordB, ByteArray.data_append]), HB3.out⟩

set_option maxHeartbeats 2000000 in
theorem shows_calls (c a : Int) (v : Value) (ns : List ByteArray) (tv : Value) (zs : List Int) (w : World) (hg : Laid w) (hv : Strs w v ns) (hm : ns.length ≤ maxLen) (hs : ∀ x ∈ ns, x.size ≤ maxLen)
    (ht : RowC w tv (zs.map (Value.int .i32))) (hz : zs.length ≤ maxLen) :
    Calls Tryd.prog 5 #[.int .i64 c, .int .i64 a, v, tv] w fun e w' => e = .returned (.bool true) ∧ Below w.heap.size w w' := by
  have HG := Lib.hid hg
  have HV := Lib.hid hv
  have HT := Lib.hid ht
  have HSM := Lib.hid (small_calls v ns w hv hm hs)
  have HA := Lib.hid (awake_calls w hg)
  obtain ⟨ao, cap, rfl, _⟩ := ht.1.runes
  have hz' := hz
  unfold maxLen at hz'
  clear hg hv hs ht
  by_cases hpre : smallB ns = true ∧ ¬ (600 < zs.length ∧ zs.length ≤ 4096)
  · obtain ⟨hsm, hln⟩ := hpre
    have hsm' := Lib.hid hsm
    clear hsm HA
    have go : ∀ w1 : World, Hid (Below w.heap.size w w1) → Hid (RowC w1 (.slice ao zs.length cap) (zs.map (Value.int .i32))) := fun w1 hb => Lib.hid ⟨HT.out.1.keep (keep_below hb.out), HT.out.2⟩
    by_cases h6 : 600 < zs.length
    · have h4 : 4096 < zs.length := by omega
      clear hln
      cases hc : (c == 0)
      · go_enter Tryd.func5, Tryd.ntmps5
        go_wp2_with fail
        refine (HSM.out).mono ?_
        rintro e w0 ⟨rfl, rfl⟩
        rw [hsm'.out]
        go_wp2_with fail
        refine (made_some v c a ns w hc HV.out hm).mono ?_
        rintro e w1 ⟨bt, u, rfl, hch, hB⟩
        have HC := Lib.hid hch
        have HB := Lib.hid hB
        clear hch hB
        have HG1 := Lib.hid (HG.out.below HB.out)
        go_wp2_with fail
        by_cases hbad : a < 0 ∨ zs.length < a ∨ 4096 < zs.length
        · have HBAD := Lib.hid hbad
          clear hbad
          refine (show_bad c a bt ns u _ zs w1 hc HG1.out HC.out (go w1 HB).out hz HBAD.out).mono ?_
          rintro e w2 ⟨rfl, hB⟩
          have HB2 := Lib.hid (bthen HB.out hB)
          clear hB
          go_wp2_with fail
          refine (rshow_bad _ c a zs w2 (go w2 HB2).out.1 hz HBAD.out).mono ?_
          rintro e w3 ⟨rfl, hB⟩
          have HB3 := Lib.hid (bthen HB2.out hB)
          clear hB
          go_wp2_with fail
          refine (awake_calls w3 (HG.out.below HB3.out)).mono ?_
          rintro e w4 ⟨rfl, hB⟩
          have HB4 := Lib.hid (bthen HB3.out hB)
          clear hB
          go_wp2
          go_ret
          exact ⟨rfl, HB4.out⟩
        · obtain ⟨k, rfl⟩ : ∃ k : Nat, a = k := ⟨a.toNat, by omega⟩
          have hk : k ≤ zs.length := by omega
          have hzz : zs.length ≤ 4096 := by omega
          clear hbad
          refine (show_good c k bt ns u _ zs w1 hc HG1.out HC.out (go w1 HB).out hk hzz).mono ?_
          rintro e w2 ⟨rfl, hB⟩
          have HB2 := Lib.hid (bthen HB.out hB)
          clear hB
          go_wp2_with fail
          refine (rshow_good _ c k zs w2 (go w2 HB2).out.1 hk hzz).mono ?_
          rintro e w3 ⟨rfl, hB⟩
          have HB3 := Lib.hid (bthen HB2.out hB)
          clear hB
          go_wp2_with fail
          refine (awake_calls w3 (HG.out.below HB3.out)).mono ?_
          rintro e w4 ⟨rfl, hB⟩
          have HB4 := Lib.hid (bthen HB3.out hB)
          clear hB
          go_wp2
          go_ret
          exact ⟨rfl, HB4.out⟩
      · have e0 : c = 0 := eq_of_beq hc
        subst e0
        clear hc
        go_enter Tryd.func5, Tryd.ntmps5
        go_wp2_with fail
        refine (HSM.out).mono ?_
        rintro e w0 ⟨rfl, rfl⟩
        rw [hsm'.out]
        go_wp2_with fail
        refine (made_ok v a ns w HV.out hm).mono ?_
        rintro e w0 ⟨rfl, rfl⟩
        go_wp2_with fail
        refine (show_nil _ w).mono ?_
        rintro e w0 ⟨rfl, rfl⟩
        go_wp2_with fail
        refine (awake_calls w HG.out).mono ?_
        rintro e w4 ⟨rfl, hB⟩
        have HB4 := Lib.hid hB
        clear hB
        go_wp2
        go_ret
        exact ⟨rfl, HB4.out⟩
    · clear hln
      cases hc : (c == 0)
      · go_enter Tryd.func5, Tryd.ntmps5
        go_wp2_with fail
        refine (HSM.out).mono ?_
        rintro e w0 ⟨rfl, rfl⟩
        rw [hsm'.out]
        go_wp2_with fail
        refine (made_some v c a ns w hc HV.out hm).mono ?_
        rintro e w1 ⟨bt, u, rfl, hch, hB⟩
        have HC := Lib.hid hch
        have HB := Lib.hid hB
        clear hch hB
        have HG1 := Lib.hid (HG.out.below HB.out)
        go_wp2_with fail
        by_cases hbad : a < 0 ∨ zs.length < a ∨ 4096 < zs.length
        · have HBAD := Lib.hid hbad
          clear hbad
          refine (show_bad c a bt ns u _ zs w1 hc HG1.out HC.out (go w1 HB).out hz HBAD.out).mono ?_
          rintro e w2 ⟨rfl, hB⟩
          have HB2 := Lib.hid (bthen HB.out hB)
          clear hB
          go_wp2_with fail
          refine (rshow_bad _ c a zs w2 (go w2 HB2).out.1 hz HBAD.out).mono ?_
          rintro e w3 ⟨rfl, hB⟩
          have HB3 := Lib.hid (bthen HB2.out hB)
          clear hB
          go_wp2_with fail
          refine (awake_calls w3 (HG.out.below HB3.out)).mono ?_
          rintro e w4 ⟨rfl, hB⟩
          have HB4 := Lib.hid (bthen HB3.out hB)
          clear hB
          go_wp2
          go_ret
          exact ⟨rfl, HB4.out⟩
        · obtain ⟨k, rfl⟩ : ∃ k : Nat, a = k := ⟨a.toNat, by omega⟩
          have hk : k ≤ zs.length := by omega
          have hzz : zs.length ≤ 4096 := by omega
          clear hbad
          refine (show_good c k bt ns u _ zs w1 hc HG1.out HC.out (go w1 HB).out hk hzz).mono ?_
          rintro e w2 ⟨rfl, hB⟩
          have HB2 := Lib.hid (bthen HB.out hB)
          clear hB
          go_wp2_with fail
          refine (rshow_good _ c k zs w2 (go w2 HB2).out.1 hk hzz).mono ?_
          rintro e w3 ⟨rfl, hB⟩
          have HB3 := Lib.hid (bthen HB2.out hB)
          clear hB
          go_wp2_with fail
          refine (awake_calls w3 (HG.out.below HB3.out)).mono ?_
          rintro e w4 ⟨rfl, hB⟩
          have HB4 := Lib.hid (bthen HB3.out hB)
          clear hB
          go_wp2
          go_ret
          exact ⟨rfl, HB4.out⟩
      · have e0 : c = 0 := eq_of_beq hc
        subst e0
        clear hc
        go_enter Tryd.func5, Tryd.ntmps5
        go_wp2_with fail
        refine (HSM.out).mono ?_
        rintro e w0 ⟨rfl, rfl⟩
        rw [hsm'.out]
        go_wp2_with fail
        refine (made_ok v a ns w HV.out hm).mono ?_
        rintro e w0 ⟨rfl, rfl⟩
        go_wp2_with fail
        refine (show_nil _ w).mono ?_
        rintro e w0 ⟨rfl, rfl⟩
        go_wp2_with fail
        refine (awake_calls w HG.out).mono ?_
        rintro e w4 ⟨rfl, hB⟩
        have HB4 := Lib.hid hB
        clear hB
        go_wp2
        go_ret
        exact ⟨rfl, HB4.out⟩
  · cases hsm : smallB ns
    · have hsm' := Lib.hid hsm
      clear hpre hsm
      go_enter Tryd.func5, Tryd.ntmps5
      go_wp2_with fail
      refine (HSM.out).mono ?_
      rintro e w1 ⟨rfl, rfl⟩
      rw [hsm'.out]
      go_wp2_with fail
      refine (HA.out).mono ?_
      rintro e w1 ⟨rfl, hB⟩
      have HB := Lib.hid hB
      clear hB
      go_wp2
      go_ret
      exact ⟨rfl, HB.out⟩
    · have hsm' := Lib.hid hsm
      have h6 : 600 < zs.length ∧ zs.length ≤ 4096 := by
        by_cases h : 600 < zs.length ∧ zs.length ≤ 4096
        · exact h
        · exact absurd ⟨hsm, h⟩ hpre
      obtain ⟨h6, h7⟩ := h6
      clear hpre hsm
      go_enter Tryd.func5, Tryd.ntmps5
      go_wp2_with fail
      refine (HSM.out).mono ?_
      rintro e w1 ⟨rfl, rfl⟩
      rw [hsm'.out]
      go_wp2_with fail
      refine (HA.out).mono ?_
      rintro e w1 ⟨rfl, hB⟩
      have HB := Lib.hid hB
      clear hB
      go_wp2
      go_ret
      exact ⟨rfl, HB.out⟩
theorem shows_frame (w : World) (c : Int) (_ : (Lit.int .i64 c).wf = true) (a : Int) (_ : (Lit.int .i64 a).wf = true) (v : Value) (ns : List ByteArray) (hr : RowC w v (ns.map Value.string)) (hz : ∀ s ∈ ns, s.size ≤ maxLen) (hl : ns.length ≤ maxLen)
    (tv : Value) (zs : List Int) (ht : RowC w tv (zs.map (Value.int .i32))) (_ : ∀ z ∈ zs, (Lit.int .i32 z).wf = true) (htl : zs.length ≤ maxLen) (hg : Laid w) :
    Calls Tryd.prog 5 #[.int .i64 c, .int .i64 a, v, tv] w fun e w' => e = .returned (.bool true) ∧ Below w.heap.size w w' :=
  shows_calls c a v ns tv zs w hg hr.1.strs hl hz ht htl
end Go.Proofs.YtnionifbhmfkoaaDoor
