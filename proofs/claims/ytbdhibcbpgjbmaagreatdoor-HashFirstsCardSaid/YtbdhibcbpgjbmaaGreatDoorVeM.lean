/- Package vec, walked: Boxes, Box, Arrays, None. -/
import Derived.Test.YtbdhibcbpgjbmaaGreatDoorVeL
namespace Go.Proofs.YtbdhibcbpgjbmaaGreatDoor
open Go.RowKit
set_option linter.unusedVariables false
set_option maxRecDepth 100000

theorem vboxes_calls {ok : Nat → Prop} (v : Value) (l : List (List Int × VV)) (w : World) (hv : Arrs w ok v l) (hm : l.length ≤ 1048576) (hs : ∀ p ∈ l, p.1.length ≤ 1048576) :
  Calls Tryz.prog 75 #[v] w fun e w' => ∃ u, e = .returned (.agg #[u]) ∧ IsV w' (fun b => (ok b ∧ b < w.heap.size) ∨ w.heap.size ≤ b) u (.boxes l) ∧ Below w.heap.size w w' := by
 have HV := Lib.hid (hv.keep (Kept.below (below_new w (.cells #[.nilIface] 36))) (ok' := fun b => ok b ∧ b < w.heap.size) (fun b h1 h2 => ⟨h2, h1⟩))
 obtain ⟨ao, cap, f, g, rfl, _⟩ := hv
 go_enter Tryz.func75, Tryz.ntmps75
 go_wp2_with fail
 refine (clones_calls _ l _ HV.out hm hs).mono ?_
 rintro e w1 ⟨v1, rfl, hs1, hB⟩
 obtain ⟨_, a0, af⟩ := (At1.new w .nilIface 36).below hB
 have af0 := af 0
 have HS := Lib.hid hs1
 have HB := Lib.hid ((below_new w (.cells #[.nilIface] 36)).trans (hB.mono (by simp)))
 clear hs1 hB af
 go_wp2
 refine bodyPost_ret (v := .agg #[.iface 103 v1]) (by simp [results, Tryz.results75, go_sem, a0]) rfl ⟨_, rfl, ?_, below_set1 _ HB.out (Nat.le_refl _)⟩
 refine (HS.out.keep (Kept.setCell _ _ _ ?_) ?_).boxes
 ·simp
 ·intro b _ h
  rcases h with h | h
  ·exact .inl h
  ·exact .inr (by simp at h; omega)

def VV.boxs : VV → List (List Int × VV)
 | .boxes l => l | _ => []
/-- sh, u are the array p. -/
def IsArr (w : World) (ok : Nat → Prop) (sh u : Value) (p : List Int × VV) : Prop := Slc w ok sh p.1.length (ints p.1) ∧ IsV w ok u p.2
theorem IsArr.none (w : World) (ok : Nat → Prop) : IsArr w ok (.slice Option.none 0 0) .nilIface ([], .none) := ⟨Slc.nil _ _, .none⟩
theorem IsV.arrs {w : World} {ok : Nat → Prop} {s : Value} {l : List (List Int × VV)} (h : IsV w ok (.iface 103 s) (.boxes l)) : Arrs w ok s l := by
 cases h with
 | boxes f g h1 h2 hc hs hv => exact ⟨_, _, f, g, rfl, h1, h2, hc, hs, hv⟩

set_option maxHeartbeats 2000000 in
theorem vbox_calls {ok : Nat → Prop} (u : Value) (V : VV) (i : Int) (w : World) (h : IsV w ok u V) (hok : V.ok) : Calls Tryz.prog 57 #[.agg #[u], .int .i64 i] w fun e w' => ∃ sh x, e = .returned (.agg #[sh, x]) ∧ IsArr w' (fun b => (ok b ∧ b < w.heap.size) ∨ w.heap.size ≤ b) sh x (atI V.boxs ([], .none) i) ∧ Below w.heap.size w w' := by
 have H := Lib.hid h
 cases h with
 | none =>
  have t0 := ta_nil_Bits; have t1 := ta_nil_slI8; have t2 := ta_nil_slI64; have t3 := ta_nil_slF; have t4 := ta_nil_slI32; have t5 := ta_nil_slA
  have hz : Hid (atI (α := List Int × VV) [] ([], .none) i = ([], .none)) := Lib.hid (by simp [atI])
  go_enter Tryz.func57, Tryz.ntmps57
  go_wp2
  refine bodyPost_ret (v := .agg #[.slice Option.none 0 0, .nilIface]) (by simp [results, Tryz.results57, go_sem]) rfl ⟨_, _, rfl, ?_, ?_⟩
  ·simp only [VV.boxs]; rw [hz.out]; exact IsArr.none _ _
  ·exact (below_new w _).alloc (by simp) _
 | @bits s l h hm =>
  have hb := Lib.hid (IsV.isBits h)
  obtain ⟨_, ao, cap, rfl, _⟩ := h
  have t0 := ta_Bits_Bits; have t1 := ta_Bits_slI8; have t2 := ta_Bits_slI64; have t3 := ta_Bits_slF; have t4 := ta_Bits_slI32; have t5 := ta_Bits_slA
  have hz : Hid (atI (α := List Int × VV) [] ([], .none) i = ([], .none)) := Lib.hid (by simp [atI])
  go_enter Tryz.func57, Tryz.ntmps57
  go_wp2
  refine bodyPost_ret (v := .agg #[.slice Option.none 0 0, .nilIface]) (by simp [results, Tryz.results57, go_sem]) rfl ⟨_, _, rfl, ?_, ?_⟩
  ·simp only [VV.boxs]; rw [hz.out]; exact IsArr.none _ _
  ·exact (below_new w _).alloc (by simp) _
 | @smalls s l h =>
  obtain ⟨ao, cap, rfl, _, _, _, hc⟩ := h.opened
  clear h hc
  have t0 := ta_slI8_Bits; have t1 := ta_slI8_slI8; have t2 := ta_slI8_slI64; have t3 := ta_slI8_slF; have t4 := ta_slI8_slI32; have t5 := ta_slI8_slA
  have hz : Hid (atI (α := List Int × VV) [] ([], .none) i = ([], .none)) := Lib.hid (by simp [atI])
  go_enter Tryz.func57, Tryz.ntmps57
  go_wp2
  refine bodyPost_ret (v := .agg #[.slice Option.none 0 0, .nilIface]) (by simp [results, Tryz.results57, go_sem]) rfl ⟨_, _, rfl, ?_, ?_⟩
  ·simp only [VV.boxs]; rw [hz.out]; exact IsArr.none _ _
  ·exact (below_new w _).alloc (by simp) _
 | @ints s l h =>
  obtain ⟨ao, cap, rfl, _, _, _, hc⟩ := h.opened
  clear h hc
  have t0 := ta_slI64_Bits; have t1 := ta_slI64_slI8; have t2 := ta_slI64_slI64; have t3 := ta_slI64_slF; have t4 := ta_slI64_slI32; have t5 := ta_slI64_slA
  have hz : Hid (atI (α := List Int × VV) [] ([], .none) i = ([], .none)) := Lib.hid (by simp [atI])
  go_enter Tryz.func57, Tryz.ntmps57
  go_wp2
  refine bodyPost_ret (v := .agg #[.slice Option.none 0 0, .nilIface]) (by simp [results, Tryz.results57, go_sem]) rfl ⟨_, _, rfl, ?_, ?_⟩
  ·simp only [VV.boxs]; rw [hz.out]; exact IsArr.none _ _
  ·exact (below_new w _).alloc (by simp) _
 | @floats s l h =>
  obtain ⟨ao, cap, rfl, _, _, _, hc⟩ := h.opened
  clear h hc
  have t0 := ta_slF_Bits; have t1 := ta_slF_slI8; have t2 := ta_slF_slI64; have t3 := ta_slF_slF; have t4 := ta_slF_slI32; have t5 := ta_slF_slA
  have hz : Hid (atI (α := List Int × VV) [] ([], .none) i = ([], .none)) := Lib.hid (by simp [atI])
  go_enter Tryz.func57, Tryz.ntmps57
  go_wp2
  refine bodyPost_ret (v := .agg #[.slice Option.none 0 0, .nilIface]) (by simp [results, Tryz.results57, go_sem]) rfl ⟨_, _, rfl, ?_, ?_⟩
  ·simp only [VV.boxs]; rw [hz.out]; exact IsArr.none _ _
  ·exact (below_new w _).alloc (by simp) _
 | @chars s l h =>
  obtain ⟨ao, cap, rfl, _, _, _, hc⟩ := h.opened
  clear h hc
  have t0 := ta_slI32_Bits; have t1 := ta_slI32_slI8; have t2 := ta_slI32_slI64; have t3 := ta_slI32_slF; have t4 := ta_slI32_slI32; have t5 := ta_slI32_slA
  have hz : Hid (atI (α := List Int × VV) [] ([], .none) i = ([], .none)) := Lib.hid (by simp [atI])
  go_enter Tryz.func57, Tryz.ntmps57
  go_wp2
  refine bodyPost_ret (v := .agg #[.slice Option.none 0 0, .nilIface]) (by simp [results, Tryz.results57, go_sem]) rfl ⟨_, _, rfl, ?_, ?_⟩
  ·simp only [VV.boxs]; rw [hz.out]; exact IsArr.none _ _
  ·exact (below_new w _).alloc (by simp) _
 | @boxes ao cap l f g h1 h2 hc hs hv =>
  have t0 := ta_slA_Bits; have t1 := ta_slA_slI8; have t2 := ta_slA_slI64; have t3 := ta_slA_slF; have t4 := ta_slA_slI32; have t5 := ta_slA_slA
  clear hs hv
  by_cases hin : 0 ≤ i ∧ i < (l.length : Int)
  ·obtain ⟨k, rfl⟩ := Int.eq_ofNat_of_zero_le hin.1
   have hk : k < l.length := by omega
   have HA := Lib.hid H.out.lt.arrs
   obtain ⟨ao', cap', f', g', e', _, _, hc', hs', hv'⟩ := HA.out
   cases e'
   have HK := Lib.hid hk
   have hz : Hid (atI (α := List Int × VV) l ([], .none) (k : Int) = l[k]'hk) := Lib.hid (atI_nat hk)
   obtain ⟨b, off, rfl, _, c1, c2⟩ := hc' k hk
   have HSk := Lib.hid (hs' k hk)
   have HVk := Lib.hid (hv' k hk)
   have hshape := HVk.out.shape
   have HL := Lib.hid (hok.2 _ (List.getElem_mem hk))
   obtain ⟨p, hp⟩ : ∃ p, p = l[k]'hk := ⟨_, rfl⟩
   rw [← hp] at HSk HVk HL hz
   obtain ⟨fk, hfk⟩ : ∃ fk, fk = f' k := ⟨_, rfl⟩
   obtain ⟨gk, hgk⟩ : ∃ gk, gk = g' k := ⟨_, rfl⟩
   rw [← hfk] at c1 HSk
   rw [← hgk] at c2 HVk hshape
   obtain ⟨aok, capk, rfl, _⟩ := HSk.out.opened
   have HU := Lib.hid hshape
   unfold IsIface at hshape
   have C1 := Lib.hid c1; have C2 := Lib.hid c2
   clear hc hc' hs' hv' hp hfk hgk c1 c2 hin hok
   rcases hshape with rfl | ⟨t, x, rfl⟩
   ·go_enter Tryz.func57, Tryz.ntmps57
    go_wp2_with fail
    refine (has_yes _ _ k _ (H.out.grow ((below_new _ _).alloc (by simp) _)) HK.out).mono ?_
    rintro e w1 ⟨rfl, hB⟩
    have HB := Lib.hid (((below_new w _).alloc (by simp) _).trans (hB.mono (by simp <;> omega)))
    have HR := Lib.hid (((At2.new (w.alloc _) (.slice Option.none 0 0) .nilIface 38)).below hB)
    simp only [World.size_alloc] at HR
    clear hB
    have d1 := keep_below HB.out _ _ C1.out
    have d2 := keep_below HB.out _ _ C2.out
    go_wp2_with fail
    refine (aclone_calls _ _ p.1 _ (HSk.out.below HB.out) HU.out HL.out).mono ?_
    rintro e w2 ⟨sh', rfl, hs1, hB2⟩
    obtain ⟨ao1, cap1, rfl, _⟩ := hs1.opened
    obtain ⟨hl1, z0, z1, zf⟩ := HR.out.below hB2
    have zf0 := zf 0
    have zf1 := zf 1
    have hw1 := HR.out.1
    have HS1 := Lib.hid (hs1.keep (Kept.refl _ _) (ok' := fun b => w.heap.size + 1 < b) (fun b _ h => by have h' : w1.heap.size ≤ b := h; omega))
    have HB2 := Lib.hid (HB.out.trans (hB2.mono HB.out.size))
    clear hs1 hB2 zf
    go_wp2
    have HF := Lib.hid (show ∀ x y, Below w.heap.size w ((w2.setCell ⟨w.heap.size + 1, 0, Option.none⟩ x).setCell ⟨w.heap.size + 1, 1, Option.none⟩ y) from fun x y => (HB2.out.setCell (Nat.le_succ _) _).setCell (Nat.le_succ _) _)
    refine bodyPost_ret (v := .agg #[.slice ao1 p.1.length cap1, .nilIface]) (by simp [results, Tryz.results57, go_sem, z0, z1]) rfl ⟨_, _, rfl, ⟨?_, ?_⟩, HF.out _ _⟩
    ·simp only [VV.boxs]
     rw [hz.out]
     exact HS1.out.keep ((Kept.setCell _ _ _ (by simp)).trans (Kept.setCell _ _ _ (by simp))) (fun b _ h => .inr (by omega))
    ·simp only [VV.boxs]
     rw [hz.out]
     exact HVk.out.keep (Kept.below (HF.out _ _)) (fun b _ h => .inl h)
   ·go_enter Tryz.func57, Tryz.ntmps57
    go_wp2_with fail
    refine (has_yes _ _ k _ (H.out.grow ((below_new _ _).alloc (by simp) _)) HK.out).mono ?_
    rintro e w1 ⟨rfl, hB⟩
    have HB := Lib.hid (((below_new w _).alloc (by simp) _).trans (hB.mono (by simp <;> omega)))
    have HR := Lib.hid (((At2.new (w.alloc _) (.slice Option.none 0 0) .nilIface 38)).below hB)
    simp only [World.size_alloc] at HR
    clear hB
    have d1 := keep_below HB.out _ _ C1.out
    have d2 := keep_below HB.out _ _ C2.out
    go_wp2_with fail
    refine (aclone_calls _ _ p.1 _ (HSk.out.below HB.out) HU.out HL.out).mono ?_
    rintro e w2 ⟨sh', rfl, hs1, hB2⟩
    obtain ⟨ao1, cap1, rfl, _⟩ := hs1.opened
    obtain ⟨hl1, z0, z1, zf⟩ := HR.out.below hB2
    have zf0 := zf 0
    have zf1 := zf 1
    have hw1 := HR.out.1
    have HS1 := Lib.hid (hs1.keep (Kept.refl _ _) (ok' := fun b => w.heap.size + 1 < b) (fun b _ h => by have h' : w1.heap.size ≤ b := h; omega))
    have HB2 := Lib.hid (HB.out.trans (hB2.mono HB.out.size))
    clear hs1 hB2 zf
    go_wp2
    have HF := Lib.hid (show ∀ x y, Below w.heap.size w ((w2.setCell ⟨w.heap.size + 1, 0, Option.none⟩ x).setCell ⟨w.heap.size + 1, 1, Option.none⟩ y) from fun x y => (HB2.out.setCell (Nat.le_succ _) _).setCell (Nat.le_succ _) _)
    refine bodyPost_ret (v := .agg #[.slice ao1 p.1.length cap1, .iface t x]) (by simp [results, Tryz.results57, go_sem, z0, z1]) rfl ⟨_, _, rfl, ⟨?_, ?_⟩, HF.out _ _⟩
    ·simp only [VV.boxs]
     rw [hz.out]
     exact HS1.out.keep ((Kept.setCell _ _ _ (by simp)).trans (Kept.setCell _ _ _ (by simp))) (fun b _ h => .inr (by omega))
    ·simp only [VV.boxs]
     rw [hz.out]
     exact HVk.out.keep (Kept.below (HF.out _ _)) (fun b _ h => .inl h)
  ·have HN := Lib.hid hin
   have hz : Hid (atI (α := List Int × VV) l ([], .none) i = ([], .none)) := Lib.hid (atI_neg hin)
   clear hc hin
   go_enter Tryz.func57, Tryz.ntmps57
   go_wp2_with fail
   refine (has_no _ _ i _ (H.out.grow ((below_new _ _).alloc (by simp) _)) HN.out).mono ?_
   rintro e w1 ⟨rfl, hB⟩
   have HB := Lib.hid (((below_new w _).alloc (by simp) _).trans (hB.mono (by simp <;> omega)))
   have HR := Lib.hid (((At2.new (w.alloc _) (.slice Option.none 0 0) .nilIface 38)).below hB)
   simp only [World.size_alloc] at HR
   obtain ⟨_, z0, z1, zf⟩ := HR.out
   have zf0 := zf 0
   have zf1 := zf 1
   clear hB zf
   go_wp2
   refine bodyPost_ret (v := .agg #[.slice Option.none 0 0, .nilIface]) (by simp [results, Tryz.results57, go_sem, z0, z1]) rfl ⟨_, _, rfl, ?_, (HB.out.setCell (Nat.le_succ _) _).setCell (Nat.le_succ _) _⟩
   simp only [VV.boxs]
   rw [hz.out]
   exact IsArr.none _ _
end Go.Proofs.YtbdhibcbpgjbmaaGreatDoor
