/- BitvecCuts, walked. -/
import Derived.Test.YtkigkcncbobhaaaDoorBvT
import Derived.Deep.RegionLaw
namespace Go.Proofs.YtkigkcncbobhaaaDoor
open Go.RowKit
set_option linter.unusedVariables false

theorem isBits_nil' (w : World) : IsBits w (.agg #[.int .i64 0, .slice none 0 0]) [] := ⟨_, rfl, rfl, none, 0, rfl, fun i hi => absurd hi (by simp [words, bws, u64s])⟩
theorem below_undrew {w w1 : World} (h : Below w.drew.heap.size w.drew w1) : Below w.heap.size w w1 := ⟨h.os, h.tape, h.output, h.size, h.block⟩
theorem cut_any (v : Value) (l : List Bool) (a b : Int) (w : World) (x y : Nat) (hx : into a 0 l.length = (x : Int)) (hy : into b x l.length = (y : Int)) (hv : IsBits w v l) (hl : l.length ≤ 1048576) :
    Calls Tryd.prog 30 #[v, .int .i64 a, .int .i64 b] w fun e w' => ∃ v, e = .returned v ∧ IsBits w' v ((l.take y).drop x) ∧ Below w.heap.size w w' := by
  obtain ⟨y', hy'⟩ : ∃ y' : Nat, min (max b 0) (l.length : Int) = (y' : Int) := ⟨(min (max b 0) (l.length : Int)).toNat, by omega⟩
  have hx' : min (max a 0) (l.length : Int) = (x : Int) := by unfold into at hx; split at hx <;> (try split at hx) <;> omega
  by_cases h : x < y'
  · have e : y' = y := by unfold into at hy; split at hy <;> (try split at hy) <;> omega
    subst e
    exact cut_some v l a b w hv hl x y' hx' hy' h
  · refine (cut_none v l a b w hv hl x y' hx' hy' (by omega)).mono ?_
    rintro e w' ⟨rfl, hB⟩
    have e0 : y ≤ x := by unfold into at hy; split at hy <;> (try split at hy) <;> omega
    have e : (l.take y).drop x = [] := List.drop_eq_nil_of_le (by simp; omega)
    rw [e]
    exact ⟨_, rfl, isBits_nil' _, hB⟩
/-- A slice of a slice. -/
theorem Sl.cut {w : World} {ao : Option Addr} {cap : Nat} {l : List Bool} (hcap : l.length ≤ cap) (hc : ∀ i (h : i < (bools l).length), ∃ b off, ao = some ⟨b, off, none⟩ ∧ w.cell? ⟨b, off + i, none⟩ = some (bools l)[i]) (x y : Nat) (hxy : x ≤ y) (hyl : y ≤ l.length) :
    Sl w (.slice (if cap = x then ao else Option.map (fun q : Addr => q.add x) ao) (y - x) (cap - x)) ((l.take y).drop x).length (bools ((l.take y).drop x)) := by
  have e : ((l.take y).drop x).length = y - x := by simp; omega
  rw [e]
  refine ⟨by rw [bools_len, e], _, _, rfl, fun i hi => ?_⟩
  rw [bools_len, e] at hi
  obtain ⟨b, off, ea, hcell⟩ := hc (x + i) (by rw [bools_len]; omega)
  refine ⟨b, off + x, ?_, ?_⟩
  · rw [if_neg (by omega), ea]
    simp [Go.WideShapes.add_plain]
  · rw [Nat.add_assoc, hcell, bools_get, bools_get]
    simp

set_option maxHeartbeats 4000000 in
theorem cuts_calls (v : Value) (l : List Bool) (a b : Int) (w : World) (hv : RowC w v (bools l)) (hl : l.length ≤ maxLen) (hT : TabAt w) :
    Calls Tryd.prog 7 #[v, .int .i64 a, .int .i64 b] w fun e w' => e = .returned (.bool true) ∧ Below w.heap.size w w' := by
  unfold maxLen at hl
  have HT := Lib.hid hT
  have HS := Lib.hid (hv.1.sl)
  obtain ⟨ao, cap, rfl, hcap, hcm, hcells⟩ := hv.opened
  rw [bools_len] at HS hcap ⊢
  clear hv hT
  by_cases hbig : 1000 < l.length
  · clear hcells
    go_enter Tryd.func7, Tryd.ntmps7
    go_wp2_with fail
    refine (awake_calls w HT.out).mono ?_
    rintro e w1 ⟨rfl, hB⟩
    have HB := Lib.hid hB
    clear hB
    go_wp2
    go_ret
    exact ⟨rfl, HB.out⟩
  · have hl2 : l.length ≤ 1048576 := by omega
    obtain ⟨x, hx⟩ : ∃ x : Nat, into a 0 l.length = (x : Int) := ⟨(into a 0 l.length).toNat, by unfold into; split <;> (try split) <;> omega⟩
    have hx2 : x ≤ l.length := by unfold into at hx; split at hx <;> (try split at hx) <;> omega
    obtain ⟨y, hy⟩ : ∃ y : Nat, into b x l.length = (y : Int) := ⟨(into b x l.length).toNat, by unfold into; split <;> (try split) <;> omega⟩
    have hy2 : y ≤ l.length ∧ x ≤ y := by unfold into at hy; split at hy <;> (try split at hy) <;> omega
    have HX := Lib.hid hx
    have HY := Lib.hid hy
    obtain ⟨hyl, hxy⟩ := hy2
    have hcx : x ≤ cap := by omega
    have hcy : y ≤ cap := by omega
    by_cases hne : cap = x
    · obtain rfl : cap = x := hne
      obtain rfl : y = cap := by omega
      have hcl : l.length = y := by omega
      have HC : Hid (∀ (wx : World) (A : Option Addr) (C : Nat), Sl wx (.slice A 0 C) ((l.take y).drop y).length (bools ((l.take y).drop y))) := Lib.hid (fun wx A C => by
        have e : (l.take y).drop y = [] := List.drop_eq_nil_of_le (by simp; omega)
        rw [e]; exact ⟨rfl, A, C, rfl, fun i hi => absurd hi (by simp [bools])⟩)
      have HLC : Hid (((l.take y).drop y).length ≤ 1048576) := Lib.hid (by simp)
      clear hx hy hcells hcl
      go_enter Tryd.func7, Tryd.ntmps7
      go_wp2_with fail
      refine (into_calls _ _ _ _).mono ?_
      rintro e w1 ⟨rfl, rfl⟩
      rw [HX.out]
      go_wp2_with fail
      refine (into_calls _ _ _ _).mono ?_
      rintro e w1 ⟨rfl, rfl⟩
      rw [HY.out]
      go_wp2
      go_region_with ((first
        | (go_at_call 10; refine (pack_calls _ l _ ?_ hl2).mono ?_; exact HS.out; rintro e w1 ⟨v1, rfl, hb, hB⟩; have HV1 := Lib.hid hb; have HB1 : Hid (Below w.heap.size w w1) := Lib.hid (below_undrew hB); clear hb hB)
        | (go_at_call 30; refine (cut_any _ l a b _ _ _ HX.out HY.out ?_ hl2).mono ?_; exact HV1.out; rintro e w2 ⟨v2, rfl, hb, hB⟩; have HV2 := Lib.hid hb; have HB2 := Lib.hid (bthen' HB1.out hB); clear hb hB)
        | (go_at_call 11; refine (shows_calls _ _ _ _ HV2.out (HC.out _ _ _) HLC.out).mono ?_; rintro e w3 ⟨rfl, hB⟩; have HB3 := Lib.hid (bthen' HB2.out hB); clear hB)
        | (go_at_call 9; refine (awake_calls _ ?_).mono ?_; exact (fun j hj => keep_below HB3.out _ _ (HT.out j hj)); rintro e w4 ⟨rfl, hB⟩; have HB4 := Lib.hid (bthen' HB3.out hB); clear hB)))
      all_goals
        go_wp2
        go_ret
        exact ⟨rfl, HB4.out⟩
    · have HC : Hid (∀ wx, (∀ a v, w.cell? a = some v → wx.cell? a = some v) → Sl wx (.slice (Option.map (fun q : Addr => q.add x) ao) (y - x) (cap - x)) ((l.take y).drop x).length (bools ((l.take y).drop x))) := Lib.hid (fun wx hk => by have := (Sl.cut hcap hcells x y hxy hyl).keep hk; rwa [if_neg hne] at this)
      have HLC : Hid (((l.take y).drop x).length ≤ 1048576) := Lib.hid (by simp; omega)
      clear hx hy hcells
      go_enter Tryd.func7, Tryd.ntmps7
      go_wp2_with fail
      refine (into_calls _ _ _ _).mono ?_
      rintro e w1 ⟨rfl, rfl⟩
      rw [HX.out]
      go_wp2_with fail
      refine (into_calls _ _ _ _).mono ?_
      rintro e w1 ⟨rfl, rfl⟩
      rw [HY.out]
      go_wp2
      go_region_with ((first
        | (go_at_call 10; refine (pack_calls _ l _ ?_ hl2).mono ?_; exact HS.out; rintro e w1 ⟨v1, rfl, hb, hB⟩; have HV1 := Lib.hid hb; have HB1 : Hid (Below w.heap.size w w1) := Lib.hid (below_undrew hB); clear hb hB)
        | (go_at_call 30; refine (cut_any _ l a b _ x y HX.out HY.out ?_ hl2).mono ?_; exact HV1.out; rintro e w2 ⟨v2, rfl, hb, hB⟩; have HV2 := Lib.hid hb; have HB2 := Lib.hid (bthen' HB1.out hB); clear hb hB)
        | (go_at_call 11; refine (shows_calls _ _ _ _ HV2.out (HC.out _ (keep_below HB2.out)) HLC.out).mono ?_; rintro e w3 ⟨rfl, hB⟩; have HB3 := Lib.hid (bthen' HB2.out hB); clear hB)
        | (go_at_call 9; refine (awake_calls _ ?_).mono ?_; exact (fun j hj => keep_below HB3.out _ _ (HT.out j hj)); rintro e w4 ⟨rfl, hB⟩; have HB4 := Lib.hid (bthen' HB3.out hB); clear hB)))
      all_goals
        go_wp2
        go_ret
        exact ⟨rfl, HB4.out⟩

theorem cuts_frame (w : World) (v : Value) (l : List Bool) (hr : RowC w v (l.map Value.bool)) (hl : l.length ≤ maxLen) (a : Int) (_ : (Lit.int .i64 a).wf = true) (b : Int) (_ : (Lit.int .i64 b).wf = true) (hT : TabAt w) :
    Calls Tryd.prog 7 #[v, .int .i64 a, .int .i64 b] w fun e w' => e = .returned (.bool true) ∧ Below w.heap.size w w' := cuts_calls v l a b w hr hl hT
end Go.Proofs.YtkigkcncbobhaaaDoor
