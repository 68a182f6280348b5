/- TroubleTells: the walk of the law. -/
import Derived.Test.YtnionifbhmfkoaaDoorTrK
import Derived.Test.YtnionifbhmfkoaaDoorTrF
import Derived.Test.YtnionifbhmfkoaaDoorFr
namespace Go.Proofs.YtnionifbhmfkoaaDoor
open Go.RowKit Go.Extern.Stop Go.Stop Go.Extern
set_option maxRecDepth 100000

set_option maxHeartbeats 400000 in
theorem As_nil (t : Value) (w : World) : Calls Tryd.prog 21 #[.nilIface, t] w fun e w' => e = .returned (.bool false) ∧ w = w' := by
  go_enter Tryd.func21, Tryd.ntmps21
  go_wp2
  go_ret
  exact ⟨rfl, rfl⟩
set_option maxHeartbeats 400000 in
theorem Of_nil (w : World) : Calls Tryd.prog 10 #[.nilIface] w fun e w' => e = .returned (.int .i64 0) ∧ Below w.heap.size w w' := by
  go_enter Tryd.func10, Tryd.ntmps10
  go_wp2_with (go_at_call 21; refine (As_nil _ _).mono ?_; rintro e w' ⟨rfl, rfl⟩)
  go_ret
  exact ⟨rfl, (Below.refl _ _).alloc (Nat.le_refl _) _⟩
set_option maxHeartbeats 400000 in
theorem At_nil (w : World) : Calls Tryd.prog 11 #[.nilIface] w fun e w' => e = .returned (.int .i64 (-1)) ∧ Below w.heap.size w w' := by
  go_enter Tryd.func11, Tryd.ntmps11
  go_wp2_with (go_at_call 21; refine (As_nil _ _).mono ?_; rintro e w' ⟨rfl, rfl⟩)
  go_ret
  exact ⟨rfl, (Below.refl _ _).alloc (Nat.le_refl _) _⟩
theorem bthen {w w1 w2 : World} (h : Below w.heap.size w w1) (k : Below w1.heap.size w1 w2) : Below w.heap.size w w2 := h.trans (k.mono h.size)

set_option maxHeartbeats 4000000 in
theorem tells_calls (c a other : Int) (v : Value) (ns : List ByteArray) (w : World) (hg : Laid w) (hv : Strs w v ns) (hm : ns.length ≤ maxLen) (hs : ∀ x ∈ ns, x.size ≤ maxLen) :
    Calls Tryd.prog 3 #[.int .i64 c, .int .i64 a, v, .int .i64 other] w fun e w' => e = .returned (.bool true) ∧ Below w.heap.size w w' := by
  have HG := Lib.hid hg
  have HV := Lib.hid hv
  have HSM := Lib.hid (small_calls v ns w hv hm hs)
  clear hg hv hs
  cases hsm : smallB ns
  · have hsm' := Lib.hid hsm
    go_enter Tryd.func3, Tryd.ntmps3
    go_wp2_with fail
    refine (HSM.out).mono ?_
    rintro e w1 ⟨rfl, rfl⟩
    rw [hsm'.out]
    clear hsm
    go_wp2_with fail
    refine (awake_calls w HG.out).mono ?_
    rintro e w1 ⟨rfl, hB⟩
    have HB := Lib.hid hB
    clear hB
    go_wp2
    go_ret
    exact ⟨rfl, HB.out⟩
  · have hsm' := Lib.hid hsm
    clear hsm
    cases hc : (c == 0)
    · go_enter Tryd.func3, Tryd.ntmps3
      go_wp2_with fail
      refine (HSM.out).mono ?_
      rintro e w0 ⟨rfl, rfl⟩
      rw [hsm'.out]
      go_wp2_with fail
      refine (made_some v c a ns w hc HV.out hm).mono ?_
      rintro e w1 ⟨bt, u, rfl, hch, hB⟩
      obtain ⟨tu, vu, rfl, _⟩ := hch.ne_nil
      have HC := Lib.hid hch
      have HB := Lib.hid hB
      clear hch hB
      go_wp2_with fail
      refine (Of_calls c bt _ _ w1 hc (HG.out.below HB.out) HC.out.link).mono ?_
      rintro e w2 ⟨rfl, hB⟩
      have HC2 := Lib.hid (HC.out.keep (keep_below hB))
      have HB2 := Lib.hid (bthen HB.out hB)
      clear hB
      go_wp2_with fail
      refine (At_calls c a bt _ _ w2 (by simp) (HG.out.below HB2.out) HC2.out.link HC2.out.at').mono ?_
      rintro e w3 ⟨rfl, hB⟩
      have HC3 := Lib.hid (HC2.out.keep (keep_below hB))
      have HB3 := Lib.hid (bthen HB2.out hB)
      clear hB
      go_wp2_with fail
      refine (names_calls c a bt ns _ w3 hc (smallB_iff hsm'.out).1 HC3.out).mono ?_
      rintro e w4 ⟨v2, rfl, hs, hB⟩
      have HC4 := Lib.hid (HC3.out.keep (keep_below hB))
      have HB4 := Lib.hid (bthen HB3.out hB)
      have HS := Lib.hid hs
      clear hB hs
      go_wp2_with fail
      refine (texts_calls _ _ ns ns _ HS.out (HV.out.keep (keep_below HB4.out)) hm hm).mono ?_
      rintro e w5 ⟨rfl, n, rfl⟩
      rw [show decide (ns = ns) = true by simp]
      have HC5 := Lib.hid (Chain.keep (w := w4) (w' := w4.drewN n) (fun _ _ h => h) _ _ HC4.out)
      have HB5 := Lib.hid (below_drewN HB4.out n)
      go_wp2_with fail
      refine (text_calls c bt ns _ _ hc (HG.out.below HB5.out) hsm'.out HC5.out.x).mono ?_
      rintro e w6 ⟨rfl, hB⟩
      have HC6 := Lib.hid (HC5.out.keep (keep_below hB))
      have HB6 := Lib.hid (bthen HB5.out hB)
      clear hB
      go_wp2_with fail
      refine (rtext_calls v c ns w6 (HV.out.keep (keep_below HB6.out)) hsm'.out).mono ?_
      rintro e w7 ⟨rfl, hB⟩
      have HC7 := Lib.hid (HC6.out.keep (keep_below hB))
      have HB7 := Lib.hid (bthen HB6.out hB)
      clear hB
      go_wp2_with fail
      refine (TIs_calls c other bt _ _ w7 hc HC7.out.link).mono ?_
      rintro e w8 ⟨rfl, rfl⟩
      have hbb : ((c == other) == (other == c)) = true := by
        have : (c == other) = (other == c) := by rw [Bool.eq_iff_iff]; simp only [beq_iff_eq]; exact eq_comm
        rw [this]; simp
      go_wp2_with fail
      refine (word_calls c _).mono ?_
      rintro e w8 ⟨rfl, rfl⟩
      go_wp2_with fail
      refine (refword_calls c _).mono ?_
      rintro e w8 ⟨rfl, hB⟩
      have HB8 := Lib.hid (bthen HB7.out hB)
      clear hB
      go_wp2_with fail
      refine (classError_calls c _).mono ?_
      rintro e w9 ⟨rfl, rfl⟩
      go_wp2_with fail
      refine (refword_calls c _).mono ?_
      rintro e w9 ⟨rfl, hB⟩
      have HB9 := Lib.hid (bthen HB8.out hB)
      clear hB
      go_wp2_with fail
      refine (awake_calls w9 (HG.out.below HB9.out)).mono ?_
      rintro e w10 ⟨rfl, hB⟩
      have HB10 := Lib.hid (bthen HB9.out hB)
      clear hB
      go_wp2
      go_ret
      exact ⟨rfl, HB10.out⟩
    · have e0 : c = 0 := eq_of_beq hc
      subst e0
      clear hc
      go_enter Tryd.func3, Tryd.ntmps3
      go_wp2_with fail
      refine (HSM.out).mono ?_
      rintro e w0 ⟨rfl, rfl⟩
      rw [hsm'.out]
      go_wp2_with fail
      refine (made_ok v a ns w HV.out hm).mono ?_
      rintro e w0 ⟨rfl, rfl⟩
      go_wp2_with fail
      refine (Of_nil w).mono ?_
      rintro e w1 ⟨rfl, hB⟩
      have HB1 := Lib.hid hB
      clear hB
      go_wp2_with fail
      refine (At_nil w1).mono ?_
      rintro e w2 ⟨rfl, hB⟩
      have HB2 := Lib.hid (bthen HB1.out hB)
      clear hB
      go_wp2_with fail
      refine (names_nil w2).mono ?_
      rintro e w3 ⟨v2, rfl, hs, hB⟩
      have HB3 := Lib.hid (bthen HB2.out hB)
      obtain ⟨ao, cap, rfl⟩ := strs_len hs
      clear hB hs
      go_wp2_with fail
      refine (text_nil w3).mono ?_
      rintro e w4 ⟨rfl, hB⟩
      have HB4 := Lib.hid (bthen HB3.out hB)
      clear hB
      go_wp2_with fail
      refine (TIs_nil other w4).mono ?_
      rintro e w5 ⟨rfl, rfl⟩
      go_wp2_with fail
      refine (awake_calls w4 (HG.out.below HB4.out)).mono ?_
      rintro e w5 ⟨rfl, hB⟩
      have HB5 := Lib.hid (bthen HB4.out hB)
      clear hB
      go_wp2
      go_ret
      exact ⟨rfl, HB5.out⟩

theorem Row.strs {w : World} {v : Value} {ns : List ByteArray} (h : Row w v (ns.map Value.string)) : Strs w v ns := by
  rcases h with ⟨ao, cap, h0, rfl⟩ | ⟨b, off, cap, h0, rfl, hc⟩
  · have : ns = [] := by simpa using h0
    subst this
    exact .inl ⟨_, rfl, _, rfl⟩
  · simp only [List.length_map] at h0 hc
    refine .inr ⟨b, off, cap, h0, by simp, fun i hi => ?_⟩
    simpa using hc i hi
theorem tells_frame (w : World) (c : Int) (_ : (Lit.int .i64 c).wf = true) (a : Int) (_ : (Lit.int .i64 a).wf = true) (v : Value) (ns : List ByteArray) (hr : RowC w v (ns.map Value.string)) (hz : ∀ s ∈ ns, s.size ≤ maxLen) (hl : ns.length ≤ maxLen) (o : Int) (_ : (Lit.int .i64 o).wf = true) (hg : Laid w) :
    Calls Tryd.prog 3 #[.int .i64 c, .int .i64 a, v, .int .i64 o] w fun e w' => e = .returned (.bool true) ∧ Below w.heap.size w w' :=
  tells_calls c a o v ns w hg hr.1.strs hl hz
end Go.Proofs.YtnionifbhmfkoaaDoor
