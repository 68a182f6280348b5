/- The reference of layer 8: Blank, Pick. -/
import Derived.Test.YtbdhibcbpgjbmaaGreatDoorFlM
namespace Go.Proofs.YtbdhibcbpgjbmaaGreatDoor
set_option maxRecDepth 100000
open Go.RowKit Fl
set_option linter.unusedVariables false

/-- A row of items in the making. -/
def OutRel (w0 : World) (ok : Nat → Prop) (k : Nat) (v : Value) (L : List QI) (l : List PI) (wr : World) : Prop :=
 wr.ownsRow w0.heap.size 34 4 v k (flatI L) ∧ Quad wr (fun b => ok b ∧ v.ownBlock ≠ some b) L l ∧ Below w0.heap.size w0 wr
theorem OutRel.start (w0 : World) (ok : Nat → Prop) : OutRel w0 ok 0 (.slice none 0 0) [] [] w0 := ⟨World.ownsRow_nil _ _ _ _, Quad.nil _ _, Below.refl _ _⟩
theorem OutRel.step {w0 wr W4 w5 : World} {ok : Nat → Prop} {k : Nat} {v v' bx : Value} {L : List QI} {l : List PI} {x : PI} (h : OutRel w0 ok k v L l wr) (hr4 : Below wr.heap.size wr W4)
  (hx : IsB W4 (fun b => ok b ∧ v.ownBlock ≠ some b) bx x.2.2.2)
  (hown : w5.ownsRow w0.heap.size 34 4 v' (k + 1) (flatI L ++ quadV (x.1, x.2.1, x.2.2.1, bx))) (hg : W4.grownBy w5 v.ownBlock)
  (hk : ∀ j, v'.ownBlock = some j → v.ownBlock = some j ∨ W4.heap.size ≤ j) : OutRel w0 ok (k + 1) v' (L ++ [(x.1, x.2.1, x.2.2.1, bx)]) (l ++ [x]) w5 := by
 obtain ⟨h1, h2, h7⟩ := h
 have hq : Quad W4 (fun b => ok b ∧ v.ownBlock ≠ some b) (L ++ [(x.1, x.2.1, x.2.2.1, bx)]) (l ++ [x]) := (h2.keep (Kept.below hr4) (fun _ _ h => h)).snoc hx
 refine ⟨by rw [flatI_snoc]; exact hown, ?_, ?_⟩
 ·refine Quad.keep (w := W4) (ok := fun b => ok b ∧ v.ownBlock ≠ some b) (Kept.grown hg (fun b hb e => hb.2 e.symm)) (fun b hb ho => ⟨ho.1, fun e => ?_⟩) hq
  rcases hk b e with e2 | e2
  ·exact ho.2 e2
  ·omega
 ·exact (h7.trans (hr4.mono h7.size)).grown hg (by have := hr4.size; have := h7.size; omega) (fun j hj => (h1.lt j hj).1)
theorem OutRel.its {w0 wr : World} {ok : Nat → Prop} {k : Nat} {v : Value} {L : List QI} {l : List PI} (h : OutRel w0 ok k v L l wr) : Its wr (fun b => ok b ∨ w0.heap.size ≤ b) v l :=
 Its.of_own (ok := ok) h.1 (h.2.1.keep (Kept.refl _ _) (fun b _ h => h.1))

set_option maxHeartbeats 4000000 in
theorem rblank_calls (c : Int) (hc : c = 0 ∨ c = 1 ∨ c = 2) (w : World) : Calls Tryz.prog 32 #[.int .i64 c] w (ItemNew (blankI c) w) := by
 have hst := run_store_float
 rcases hc with rfl | rfl | rfl
 ·go_enter Tryz.func32, Tryz.ntmps32
  go_wp2_with fail
  exact bodyPost_ret (v := .agg #[.int .i64 0, .float .f64 0, .int .i32 0, .slice none 0 0]) (by simp [results, Tryz.results32, go_sem]) rfl ⟨_, rfl, IsB.nil _ _, (below_new _ _).alloc (by simp) _⟩
 ·go_enter Tryz.func32, Tryz.ntmps32
  go_wp2_with fail
  exact bodyPost_ret (v := .agg #[.int .i64 1, .float .f64 0, .int .i32 32, .slice none 0 0]) (by simp [results, Tryz.results32, go_sem]) rfl ⟨_, rfl, IsB.nil _ _, (below_new _ _).alloc (by simp) _⟩
 ·go_enter Tryz.func32, Tryz.ntmps32
  go_wp2_with fail
  refine bodyPost_ret (v := .agg #[.int .i64 2, .float .f64 0, .int .i32 0, .slice (some ⟨w.heap.size + 1 + 1 + 1, 0, none⟩) 1 1]) (by simp [results, Tryz.results32, go_sem]) rfl ⟨_, rfl, ?_, (((below_new _ _).alloc (by simp) _).alloc (by simp; omega) _).alloc (by simp; omega) _⟩
  have h1 := Slc.owned (World.ownsRow_lit (base := w.heap.size) (e := 3) (size := 1) ((w.alloc (.cells #[.int .i64 2, .float .f64 0, .int .i32 0, .slice (some ⟨w.heap.size + 1 + 1 + 1, 0, none⟩) 1 1] 34)).alloc (.cells #[.int .i64 2, .float .f64 0, .int .i32 0, .slice (some ⟨w.heap.size + 1 + 1 + 1, 0, none⟩) 1 1] 34)) #[.int .i64 0] 1 (by simp; omega) (by unfold maxLen; omega) rfl)
  simp only [World.size_alloc] at h1
  have h2 := (IsB.one (T := blankP) (IsP.of (s := [0]) (l := []) (f := 0) h1 (Its.nil _ _)) 25).wide (ok' := fun b => w.heap.size ≤ b) (fun b _ h => by simp at h; omega)
  simp only [World.size_alloc] at h2
  exact h2

theorem Its.ltb {w : World} {ok : Nat → Prop} {v : Value} {l : List PI} (h : Its w ok v l) : Its w (fun b => ok b ∧ b < w.heap.size) v l := h.lt
theorem own_ne {w w' : World} {v : Value} {n : Nat} {xs : List Value} (h : w'.ownsRow w.heap.size 34 4 v n xs) {b : Nat} (hb : b < w.heap.size) : v.ownBlock ≠ some b := fun e => by
 have := (h.lt b e).1; omega

set_option maxHeartbeats 4000000 in
theorem rpick_calls {ok ok2 : Nat → Prop} (lv : Value) (l : List PI) (c : Int) (hc : c = 0 ∨ c = 1 ∨ c = 2) (v : Value) (at_ : List Int) (w : World) (hl : Its w ok lv l) (hv : Slc w ok2 v at_.length (ints at_)) (hm : at_.length ≤ 100000) (hm2 : l.length ≤ 1048576) :
  Calls Tryz.prog 16 #[lv, .int .i64 c, v] w fun e w' => ∃ u, e = .returned u ∧ Its w' (fun b => (ok b ∧ b < w.heap.size) ∨ w.heap.size ≤ b) u (at_.map (atI l (blankI c))) ∧ Below w.heap.size w w' := by
 have HL := Lib.hid hl.lt; have HV := Lib.hid hv.lt; have HC := Lib.hid hc
 obtain ⟨lo_, lc, rfl, _, _⟩ := hl.len
 obtain ⟨ao, cap, rfl, _⟩ := hv.opened
 clear hv hl hc
 obtain ⟨i0, hi, hz0, hz1, hz2⟩ := info_parts info_item
 have HI0 := Lib.hid (And.intro hi (And.intro hz0 (And.intro hz1 hz2)))
 have HR0 := Lib.hid (OutRel.start w (fun b => (ok b ∧ b < w.heap.size) ∨ w.heap.size ≤ b))
 clear hi hz0 hz1 hz2
 go_enter Tryz.func16, Tryz.ntmps16
 go_wp2_with fail
 go_loopw [7, 8] (fun v i wr => ∃ (k : Nat) (L : List QI), k ≤ at_.length ∧ i = .int .i64 k ∧ OutRel w (fun b => (ok b ∧ b < w.heap.size) ∨ w.heap.size ≤ b) k v L ((at_.take k).map (atI l (blankI c))) wr) (fun _ i _ => at_.length - (intOf i).toNat)
 case atStart => exact ⟨0, [], by omega, rfl, HR0.out⟩
 case round =>
  obtain ⟨k, L, hk, rfl, hR⟩ := hrel
  obtain ⟨vo, vc, rfl⟩ := owns_form hR.1
  have HR := Lib.hid hR; have HBr := Lib.hid hR.2.2; have HSW := Lib.hid hR.2.2.size
  have HOCN := Lib.hid (show Value.oneCell' (.slice none 0 0) = true from rfl)
  clear hR
  by_cases hlt : k < at_.length
  ·obtain ⟨b, off, cap1, x, e, hx, c0⟩ := Slc.at_map (Value.int .i64) (HV.out.below HBr.out) k hlt
   cases e
   have HX := Lib.hid hx
   have HM1 : Hid (k + 1 ≤ maxLen) := Lib.hid (by unfold maxLen; omega)
   have HM2 : Hid ((k + 1) * 48 ≤ 140737488355328) := Lib.hid (by omega)
   clear hx
   by_cases hin : 0 ≤ x ∧ x < (l.length : Int)
   ·have hi1 := hin.1
    have hi2 := hin.2
    have hj : x.toNat < l.length := by omega
    obtain ⟨y, hy⟩ : ∃ y, y = l[x.toNat] := ⟨_, rfl⟩
    have HY := Lib.hid (show l[x.toNat]? = some y by rw [hy]; exact List.getElem?_eq_getElem hj)
    have HEQ := Lib.hid (show atI l (blankI c) x = y by rw [hy]; exact (congrArg (atI l (blankI c)) (show x = ((x.toNat : Nat) : Int) by omega)).trans (atI_nat hj))
    obtain ⟨lb, loff, bo, bc, rfl, _, d0, d1, d2, d3, hbx⟩ := (HL.out.grow HBr.out).at HY.out
    have HBX := Lib.hid (show IsB wr (fun b => ((ok b ∧ b < w.heap.size) ∨ w.heap.size ≤ b) ∧ (Value.slice vo k vc).ownBlock ≠ some b) (.slice bo y.2.2.2.length bc) y.2.2.2 from hbx.wide (fun b _ h => ⟨Or.inl h, own_ne HR.out.1 h.2⟩))
    have HOC := Lib.hid (show Value.oneCell' (.slice bo y.2.2.2.length bc) = true from rfl)
    have hn1 : ¬ x < 0 := by omega
    have hn2 : ¬ (l.length : Int) ≤ x := by omega
    clear hin hy hj hbx
    obtain ⟨W4, hW4⟩ : ∃ W4, W4 = wr.alloc (.cells #[.int .i64 y.1, .float .f64 y.2.1, .int .i32 y.2.2.1, (.slice bo y.2.2.2.length bc)] 34) := ⟨_, rfl⟩
    have HB4 := Lib.hid (show Below wr.heap.size wr W4 by rw [hW4]; exact (Below.refl wr.heap.size wr).alloc ((Below.refl wr.heap.size wr).size) _)
    have HO4 := Lib.hid (show W4.ownsRow w.heap.size 34 4 (.slice vo k vc) k (flatI L) by rw [hW4]; exact (owns_below2 HR.out.1 (Below.refl wr.heap.size wr)).alloc _)
    have HN4 := Lib.hid (show ∀ j u, (quadV (y.1, y.2.1, y.2.2.1, (.slice bo y.2.2.2.length bc)))[j]? = some u → W4.cell? ((⟨wr.heap.size, 0, none⟩ : Addr).add j) = some u by rw [hW4]; exact cell_four_new _ _ _ _ _ _)
    have HSZ := Lib.hid (show w.heap.size ≤ W4.heap.size from Nat.le_trans HSW.out HB4.out.size)
    have HON := Lib.hid (show ∀ u ∈ quadV (y.1, y.2.1, y.2.2.1, (.slice bo y.2.2.2.length bc)), u.oneCell' = true by intro u hu; simp only [quadV, List.mem_cons, List.not_mem_nil, or_false] at hu; rcases hu with rfl | rfl | rfl | rfl <;> first | rfl | exact HOC.out)
    have HBX4 := Lib.hid (show IsB W4 (fun b => ((ok b ∧ b < w.heap.size) ∨ w.heap.size ≤ b) ∧ (Value.slice vo k vc).ownBlock ≠ some b) ((.slice bo y.2.2.2.length bc)) y.2.2.2 by rw [hW4]; exact IsB.keep (Kept.below (below_new _ _)) (fun _ _ h => h) HBX.out)
    have hfold4 := hW4.symm
    clear hW4
    go_wp2_with (at_builtin; refine wpList_append_blk _ rfl _ _ 23 rfl w.heap.size 34 i0 _ 4 48 Tryz.underlying23 HI0.out.1 HI0.out.2.1 HI0.out.2.2.1 HI0.out.2.2.2 rfl (by decide) _ k (flatI L) rfl HO4.out ⟨wr.heap.size, 0, none⟩ 1 1 (quadV (y.1, y.2.1, y.2.2.1, (.slice bo y.2.2.2.length bc))) rfl rfl HN4.out HON.out HM1.out HM2.out HSZ.out ?_)
    intro v' w5 hown hgrow hblk
    obtain ⟨ao', cap', rfl⟩ := owns_form hown
    have HS5 := Lib.hid (HR.out.step (x := y) HB4.out HBX4.out hown hgrow hblk)
    clear hown hgrow hblk hfold4
    go_wp2_with fail
    go_roundw
    case rel =>
     refine ⟨k + 1, L ++ [(y.1, y.2.1, y.2.2.1, .slice bo y.2.2.2.length bc)], by omega, by go_num, ?_⟩
     rw [ptake HX.out, List.map_append, List.map_cons, List.map_nil, HEQ.out]
     exact HS5.out
    case measure => simp [intOf]; omega
   ·have HEQ := Lib.hid (show atI l (blankI c) x = blankI c from atI_neg hin)
    have hn : x < 0 ∨ (¬ x < 0 ∧ (l.length : Int) ≤ x) := by omega
    clear hin
    rcases hn with hn | ⟨hn, hn2⟩
    all_goals
     go_wp2_with fail
     refine (rblank_calls c HC.out _).mono ?_
     rintro e W3 ⟨bx, rfl, hbx, hB3⟩
     have HB3 := Lib.hid hB3
     obtain ⟨bo, bc, rfl, _⟩ := hbx.len
     have HBX := Lib.hid (show IsB W3 (fun b => ((ok b ∧ b < w.heap.size) ∨ w.heap.size ≤ b) ∧ (Value.slice vo k vc).ownBlock ≠ some b) (.slice bo (blankI c).2.2.2.length bc) (blankI c).2.2.2 from hbx.wide (fun b _ (h : wr.heap.size ≤ b) => ⟨Or.inr (Nat.le_trans HSW.out h), fun e => by have := (HR.out.1.lt b e).2; omega⟩))
     have HOC := Lib.hid (show Value.oneCell' (.slice bo (blankI c).2.2.2.length bc) = true from rfl)
     obtain ⟨y, hy⟩ : ∃ y, y = blankI c := ⟨_, rfl⟩
     replace HEQ := Lib.hid (show atI l (blankI c) x = y by rw [hy]; exact HEQ.out)
     rw [← hy] at HBX HOC ⊢
     clear hbx hB3 hy
     obtain ⟨W4, hW4⟩ : ∃ W4, W4 = W3.alloc (.cells #[.int .i64 y.1, .float .f64 y.2.1, .int .i32 y.2.2.1, (.slice bo y.2.2.2.length bc)] 34) := ⟨_, rfl⟩
     have HB4 := Lib.hid (show Below wr.heap.size wr W4 by rw [hW4]; exact (HB3.out).alloc ((HB3.out).size) _)
     have HO4 := Lib.hid (show W4.ownsRow w.heap.size 34 4 (.slice vo k vc) k (flatI L) by rw [hW4]; exact (owns_below2 HR.out.1 (HB3.out)).alloc _)
     have HN4 := Lib.hid (show ∀ j u, (quadV (y.1, y.2.1, y.2.2.1, (.slice bo y.2.2.2.length bc)))[j]? = some u → W4.cell? ((⟨W3.heap.size, 0, none⟩ : Addr).add j) = some u by rw [hW4]; exact cell_four_new _ _ _ _ _ _)
     have HSZ := Lib.hid (show w.heap.size ≤ W4.heap.size from Nat.le_trans HSW.out HB4.out.size)
     have HON := Lib.hid (show ∀ u ∈ quadV (y.1, y.2.1, y.2.2.1, (.slice bo y.2.2.2.length bc)), u.oneCell' = true by intro u hu; simp only [quadV, List.mem_cons, List.not_mem_nil, or_false] at hu; rcases hu with rfl | rfl | rfl | rfl <;> first | rfl | exact HOC.out)
     have HBX4 := Lib.hid (show IsB W4 (fun b => ((ok b ∧ b < w.heap.size) ∨ w.heap.size ≤ b) ∧ (Value.slice vo k vc).ownBlock ≠ some b) ((.slice bo y.2.2.2.length bc)) y.2.2.2 by rw [hW4]; exact IsB.keep (Kept.below (below_new _ _)) (fun _ _ h => h) HBX.out)
     have hfold4 := hW4.symm
     clear hW4
     go_wp2_with (at_builtin; refine wpList_append_blk _ rfl _ _ 23 rfl w.heap.size 34 i0 _ 4 48 Tryz.underlying23 HI0.out.1 HI0.out.2.1 HI0.out.2.2.1 HI0.out.2.2.2 rfl (by decide) _ k (flatI L) rfl HO4.out ⟨W3.heap.size, 0, none⟩ 1 1 (quadV (y.1, y.2.1, y.2.2.1, (.slice bo y.2.2.2.length bc))) rfl rfl HN4.out HON.out HM1.out HM2.out HSZ.out ?_)
     intro v' w5 hown hgrow hblk
     obtain ⟨ao', cap', rfl⟩ := owns_form hown
     have HS5 := Lib.hid (HR.out.step (x := y) HB4.out HBX4.out hown hgrow hblk)
     clear hown hgrow hblk hfold4
     go_wp2_with fail
     go_roundw
     case rel =>
      refine ⟨k + 1, L ++ [(y.1, y.2.1, y.2.2.1, .slice bo y.2.2.2.length bc)], by omega, by go_num, ?_⟩
      rw [ptake HX.out, List.map_append, List.map_cons, List.map_nil, HEQ.out]
      exact HS5.out
     case measure => simp [intOf]; omega
  ·have hkl : k = at_.length := by omega
   have HFIN := Lib.hid (show Its wr (fun b => ((ok b ∧ b < w.heap.size) ∨ w.heap.size ≤ b) ∨ w.heap.size ≤ b) (.slice vo k vc) (at_.map (atI l (blankI c))) by have := HR.out.its; rw [hkl, List.take_length] at this; rw [hkl]; exact this)
   clear hkl
   go_wp2_with fail
   go_ret
   exact ⟨_, rfl, HFIN.out.wide (fun b _ h => h.elim id Or.inr), HBr.out⟩
end Go.Proofs.YtbdhibcbpgjbmaaGreatDoor
