/- TroubleFinds: the walk of the law. -/
import Derived.Test.YtnionifbhmfkoaaDoorTrL
import Derived.Deep.RegionHeld3
namespace Go.Proofs.YtnionifbhmfkoaaDoor
open Go.RowKit Go.Extern.Stop Go.Stop Go.Extern
set_option maxRecDepth 100000

theorem SetTo.keep {t : Addr} {v : Value} {w w' : World} (h : SetTo t v w w') {a : Addr} {u : Value} (hc : w.cell? a = some u) (hne : a.block ≠ t.block) : w'.cell? a = some u :=
  h.2.cell hc (by intro e; exact hne (Option.some.inj e))
theorem SetTo.frozen {t : Addr} {v : Value} {w w' : World} (h : SetTo t v w w') {a : Addr} (hl : a.block < w.heap.size) (hne : a.block ≠ t.block) : w'.frozen? a = w.frozen? a :=
  World.frozen?_of_block (h.2.block a.block hl (by intro e; exact hne (Option.some.inj e)))
theorem frozen_below {w w' : World} (h : Below w.heap.size w w') {a : Addr} (hl : a.block < w.heap.size) : w'.frozen? a = w.frozen? a := h.frozen hl

theorem Chain.ne_nil' {w : World} {c a : Int} {bt : Nat} : ∀ ns u, Chain w c a bt ns u → ∃ t v, u = .iface t v
  | [], _, h => ⟨_, _, h.1⟩
  | _ :: _, _, ⟨_, _, h1, _⟩ => ⟨_, _, h1⟩
theorem Chain.base {w : World} {c a : Int} {bt : Nat} : ∀ ns u, Chain w c a bt ns u → w.cell? ⟨bt, 0, none⟩ = some (.int .i64 c)
  | [], _, h => h.2.1
  | _ :: ns, _, ⟨_, x, _, _, _, h4⟩ => Chain.base ns x h4
/-- All of w's cells are as they were. -/
def Kept (w w' : World) : Prop := ∀ a v, w.cell? a = some v → w'.cell? a = some v
theorem Kept.set {w w1 w2 : World} {t : Addr} {v : Value} (k : Kept w w1) (h : SetTo t v w1 w2) (ht : w.heap.size ≤ t.block) : Kept w w2 := fun a u hu =>
  h.keep (k a u hu) (by have := World.block_lt_of_cell? w _ hu; omega)
theorem Kept.below {w w1 w2 : World} (k : Kept w w1) (h : Below w1.heap.size w1 w2) : Kept w w2 := fun a u hu => keep_below h _ _ (k a u hu)

set_option maxHeartbeats 4000000 in
theorem finds_calls (c a other : Int) (v : Value) (ns : List ByteArray) (w : World) (hg : Laid w) (hv : Strs w v ns) (hm : ns.length ≤ maxLen) (hs : ∀ x ∈ ns, x.size ≤ maxLen) :
    Calls Tryd.prog 4 #[.int .i64 c, .int .i64 a, v, .int .i64 other] w fun e w' => e = .returned (.bool true) ∧ Below w.heap.size w w' := by
  have HG := Lib.hid hg
  have HV := Lib.hid hv
  have HSM := Lib.hid (small_calls v ns w hv hm hs)
  have HA := Lib.hid (awake_calls w hg)
  clear hg hv hs
  by_cases hpre : smallB ns = true ∧ (c == 0) = false ∧ (other == 0) = false
  rotate_left
  · cases hsm : smallB ns
    · have hsm' := Lib.hid hsm
      clear hpre hsm
      go_enter Tryd.func4, Tryd.ntmps4
      go_wp2_with fail
      refine (HSM.out).mono ?_
      rintro e w1 ⟨rfl, rfl⟩
      rw [hsm'.out]
      go_wp2_with fail
      refine (HA.out).mono ?_
      rintro e w1 ⟨rfl, hB⟩
      have HB := Lib.hid hB
      clear hB
      go_wp2
      go_ret
      exact ⟨rfl, HB.out⟩
    · have hsm' := Lib.hid hsm
      cases hc : (c == 0)
      · have ho : (other == 0) = true := by cases h : (other == 0) <;> simp_all
        clear hpre hsm
        go_enter Tryd.func4, Tryd.ntmps4
        go_wp2_with fail
        refine (HSM.out).mono ?_
        rintro e w1 ⟨rfl, rfl⟩
        rw [hsm'.out]
        go_wp2_with fail
        refine (HA.out).mono ?_
        rintro e w1 ⟨rfl, hB⟩
        have HB := Lib.hid hB
        clear hB
        go_wp2
        go_ret
        exact ⟨rfl, HB.out⟩
      · clear hpre hsm
        go_enter Tryd.func4, Tryd.ntmps4
        go_wp2_with fail
        refine (HSM.out).mono ?_
        rintro e w1 ⟨rfl, rfl⟩
        rw [hsm'.out]
        go_wp2_with fail
        refine (HA.out).mono ?_
        rintro e w1 ⟨rfl, hB⟩
        have HB := Lib.hid hB
        clear hB
        go_wp2
        go_ret
        exact ⟨rfl, HB.out⟩
  · obtain ⟨hsm, hc, ho⟩ := hpre
    have hsm' := Lib.hid hsm
    clear hsm HA
    have HE := Lib.hid (show (c == other) = (other == c) by rw [Bool.eq_iff_iff]; simp only [beq_iff_eq]; exact eq_comm)
    go_enter Tryd.func4, Tryd.ntmps4
    go_wp2_with fail
    refine (HSM.out).mono ?_
    rintro e w0 ⟨rfl, rfl⟩
    rw [hsm'.out]
    go_wp2_with fail
    refine (made_some v c a ns w hc HV.out hm).mono ?_
    rintro e w1 ⟨bt, u, rfl, hch, hB⟩
    obtain ⟨tu, vu, rfl, _⟩ := hch.ne_nil
    have HC := Lib.hid hch
    have HB := Lib.hid hB
    clear hch hB
    -- the two variables
    have hl2 : ((w1.alloc (.cells #[.pointer none] 41)).alloc (.cells #[.pointer none] 42)).heap.size = w1.heap.size + 2 := by simp
    obtain ⟨w2, hw2⟩ : ∃ w2, w2 = (w1.alloc (.cells #[.pointer none] 41)).alloc (.cells #[.pointer none] 42) := ⟨_, rfl⟩
    rw [← hw2] at hl2
    have K2 : Hid (Kept w1 w2) := Lib.hid (by rw [hw2]; exact fun a v h => keep_alloc _ _ _ _ (keep_alloc _ _ _ _ h))
    have HB2 : Hid (Below w1.heap.size w1 w2) := Lib.hid (by rw [hw2]; exact ((Below.refl _ _).alloc (Nat.le_refl _) _).alloc (by simp) _)
    have HT2 : Hid (w2.cell? ⟨w1.heap.size, 0, none⟩ = some (.pointer none) ∧ w2.frozen? ⟨w1.heap.size, 0, none⟩ = false) := Lib.hid (by rw [hw2]; exact ⟨by simp, by simp⟩)
    have HF2 : Hid (w2.cell? ⟨w1.heap.size + 1, 0, none⟩ = some (.pointer none) ∧ w2.frozen? ⟨w1.heap.size + 1, 0, none⟩ = false) := Lib.hid (by rw [hw2]; exact ⟨by simp, by simp⟩)
    have HL2 := Lib.hid hl2
    have HG2 := Lib.hid ((HG.out.below HB.out).below HB2.out)
    clear hl2
    go_wp2_with fail
    rw [← hw2]
    have HW2 := Lib.hid hw2
    clear hw2
    refine (Is_calls c other bt _ _ w2 hc (HC.out.keep K2.out).link).mono ?_
    rintro e w2' ⟨rfl, rfl⟩
    rw [HE.out]
    go_wp2_with fail
    refine (AsT c bt _ _ ⟨w1.heap.size, 0, none⟩ _ w2 (by simp) HG2.out (HC.out.keep K2.out).link HT2.out.1 HT2.out.2).mono ?_
    rintro e w3 ⟨rfl, hset⟩
    have K3 := Lib.hid (K2.out.set hset (Nat.le_refl _))
    have t3 := hset.1
    have HF3 := Lib.hid (show w3.cell? ⟨w1.heap.size + 1, 0, none⟩ = some (.pointer none) from hset.keep HF2.out.1 (by simp))
    have HFF3 := Lib.hid (show w3.frozen? ⟨w1.heap.size + 1, 0, none⟩ = false from (hset.frozen (by have := HL2.out; simp; omega) (by simp)).trans HF2.out.2)
    have HB3 := Lib.hid (HB2.out.grown hset.2 (by have := HL2.out; omega) (fun k hk => by cases hk; exact Nat.le_refl _))
    have hbt : Hid (w1.cell? ⟨bt, 0, none⟩ = some (.int .i64 c) ∧ w1.cell? ⟨bt, 1, none⟩ = some (.int .i64 a)) := Lib.hid ⟨Chain.base _ _ HC.out, HC.out.at'⟩
    have b0 := K3.out _ _ hbt.out.1
    have b1 := K3.out _ _ hbt.out.2
    clear hset
    go_wp2_with fail
    refine (troubleError_calls bt c w3 b0).mono ?_
    rintro e w3' ⟨rfl, rfl⟩
    go_wp2_with fail
    refine (refword_calls c w3).mono ?_
    rintro e w4 ⟨rfl, hB4⟩
    have K4 := Lib.hid (K3.out.below hB4)
    have t4 := keep_below hB4 _ _ t3
    have HF4 := Lib.hid (keep_below hB4 _ _ HF3.out)
    have HFF4 := Lib.hid ((frozen_below hB4 (World.block_lt_of_cell? w3 _ HF3.out)).trans HFF3.out)
    have HB4 := Lib.hid (HB3.out.trans (hB4.mono HB3.out.size))
    have HG4 := Lib.hid (K4.out _ _ (HG.out.below HB.out))
    clear hB4 t3 b0 b1
    have b0 := K4.out _ _ hbt.out.1
    go_wp2_with fail
    refine (troubleUnwrap_calls bt c w4 b0 hc).mono ?_
    rintro e w4' ⟨rfl, rfl⟩
    go_wp2_with fail
    have HLK := Lib.hid ((HC.out.keep K4.out).link)
    cases ns with
    | nil =>
      obtain ⟨ao, cap, rfl⟩ := strs_len HV.out
      refine (AsP_miss c bt 1 _ ⟨w1.heap.size + 1, 0, none⟩ w4 hc (Nat.le_refl _) HG4.out HLK.out).mono ?_
      rintro e w5 ⟨rfl, hB5⟩
      have HB5 := Lib.hid (HB4.out.trans (hB5.mono HB4.out.size))
      have HG5 := Lib.hid (keep_below hB5 _ _ HG4.out)
      clear hB5
      go_wp2_with fail
      refine (awake_calls w5 HG5.out).mono ?_
      rintro e w6 ⟨rfl, hB6⟩
      have HB6 := Lib.hid (bthen HB.out (HB5.out.trans (hB6.mono HB5.out.size)))
      clear hB6
      go_wp2
      go_ret
      exact ⟨rfl, HB6.out⟩
    | cons n ns =>
      rcases HV.out with ⟨_, h0, _⟩ | ⟨nb, noff, ncap, _, rfl, hcells⟩
      · exact absurd h0 (by simp)
      have hn0 := hcells 0 (by simp)
      have HN := Lib.hid hn0
      clear hcells hn0
      obtain ⟨b, x, hu, hb0, hb1, hb2⟩ := HC.out
      obtain ⟨tx, vx, rfl⟩ := Chain.ne_nil' _ _ hb2
      simp only [Value.iface.injEq] at hu
      obtain ⟨rfl, rfl⟩ := hu
      have HB0 := Lib.hid hb0
      have HB1 := Lib.hid hb1
      clear hb0 hb1 hb2
      refine (AsP ⟨w1.heap.size + 1, 0, none⟩ _ w4 b HG4.out HF4.out HFF4.out).mono ?_
      rintro e w5 ⟨rfl, hset⟩
      have K5 := Lib.hid (K4.out.set hset (by simp))
      have f5 := hset.1
      have HG5 := Lib.hid (K5.out _ _ (HG.out.below HB.out))
      have HB5 := Lib.hid (HB4.out.grown hset.2 HB4.out.size (fun k hk => by cases hk; simp))
      clear hset
      have n5 := K5.out _ _ HB0.out
      have x5 := K5.out _ _ HB1.out
      have v5 := K5.out _ _ (keep_below HB.out _ _ HN.out)
      simp only [Nat.add_zero, List.getElem_cons_zero] at v5
      have HC5 := HC
      have HV5 := HV
      have HGW := Lib.hid (HG.out.below HB.out)
      go_wp2_with fail
      go_region_held3 (fun w' => w'.cell? ⟨w1.heap.size + 1, 0, none⟩ = some (.pointer (some ⟨b, 0, none⟩)) ∧ w'.cell? ⟨b, 0, none⟩ = some (.string n) ∧ w'.cell? ⟨b, 1, none⟩ = some (.iface tx vx) ∧ w'.cell? ⟨nb, noff, none⟩ = some (.string n) ∧ Kept w1 w' ∧ Below w1.heap.size w1 w')
        (first | exact ⟨f5, n5, x5, v5, K5.out, HB5.out.drew⟩ | (go_split_ands; exact ⟨keep_below hB _ _ (by assumption), keep_below hB _ _ (by assumption), keep_below hB _ _ (by assumption), keep_below hB _ _ (by assumption), Kept.below (by assumption) hB, bthen (by assumption) hB⟩) | (go_split_ands; exact ⟨by assumption, by assumption, by assumption, by assumption, by assumption, by assumption⟩))
        ((first
          | (go_at_call 24; go_split_ands; refine (callError_calls c a bt b n ns _ hc ((‹Kept w1 _›) _ _ HGW.out) hsm'.out (HC5.out.keep ‹Kept w1 _›)).mono ?_; rintro e w' ⟨rfl, hB⟩)
          | (go_at_call 16; go_split_ands; refine (rtext_calls _ c (n :: ns) _ ((HV5.out.keep (keep_below HB.out)).keep ‹Kept w1 _›) hsm'.out).mono ?_; rintro e w' ⟨rfl, hB⟩)
          | (go_at_call 25; go_split_ands; refine (callUnwrap_calls b (.iface tx vx) _ (by assumption)).mono ?_; rintro e w' ⟨rfl, rfl⟩)
          | (go_at_call 8; go_split_ands; refine (awake_calls _ ((‹Kept w1 _›) _ _ HGW.out)).mono ?_; rintro e w' ⟨rfl, hB⟩)))
      all_goals go_split_ands
      all_goals (have HZ := Lib.hid (bthen HB.out (‹Below w1.heap.size w1 w'›)))
      all_goals go_wp2
      all_goals go_ret
      all_goals exact ⟨rfl, HZ.out⟩

theorem finds_frame (w : World) (c : Int) (_ : (Lit.int .i64 c).wf = true) (a : Int) (_ : (Lit.int .i64 a).wf = true) (v : Value) (ns : List ByteArray) (hr : RowC w v (ns.map Value.string)) (hz : ∀ s ∈ ns, s.size ≤ maxLen) (hl : ns.length ≤ maxLen) (o : Int) (_ : (Lit.int .i64 o).wf = true) (hg : Laid w) :
    Calls Tryd.prog 4 #[.int .i64 c, .int .i64 a, v, .int .i64 o] w fun e w' => e = .returned (.bool true) ∧ Below w.heap.size w w' :=
  finds_calls c a o v ns w hg hr.1.strs hl hz
end Go.Proofs.YtnionifbhmfkoaaDoor
