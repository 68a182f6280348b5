/- Plain arrays, the document's functions walked: Tidy. -/
import Derived.Test.YtbdhibcbpgjbmaaGreatDoorVaG
namespace Go.Proofs.YtbdhibcbpgjbmaaGreatDoor
open Go.RowKit Fl
set_option linter.unusedVariables false
set_option maxRecDepth 100000

def tidyI (t : PA → PA) (x : PI) : PI := (x.1, if x.1 = 0 then ze x.2.1 else 0, if x.1 = 1 then x.2.2.1 else 0, if x.1 = 2 then [t (Go.Proofs.YtbdhibcbpgjbmaaGreatDoor.hd x.2.2.2)] else [])
/-- Tidied: each item with what its kind has alone. -/
def tidyP : Nat → PA → PA
  | 0, _ => default
  | d + 1, p => .mk p.s (p.l.map (tidyI (tidyP d))) p.f
def PlainIs (q : PA) (ok : Nat → Prop) (w : World) (e : Ending) (w' : World) : Prop := ∃ u, e = .returned u ∧ IsP w' (fun b => (ok b ∧ b < w.heap.size) ∨ w.heap.size ≤ b) u q ∧ Below w.heap.size w w'

theorem Slc.ltw {w : World} {ok : Nat → Prop} {s : Value} {n : Nat} {xs : List Value} (h : Slc w ok s n xs) : Slc w (fun b => ok b ∧ b < w.heap.size) s n xs := h.keep (Kept.refl _ _) (fun b h1 h2 => ⟨h2, h1⟩)
theorem Kept.grown {ok : Nat → Prop} {w w' : World} {row : Option Nat} (h : w.grownBy w' row) (hne : ∀ b, ok b → some b ≠ row) : Kept ok w w' := fun a v o hv => h.cell hv (hne _ o)
/-- A plain array handed back through a variable of its own. -/
theorem plain_done {wr : World} {ok : Nat → Prop} {sh v : Value} {s : List Int} {l : List PI} {f : Int} {r : Nat} (hs : Slc wr ok sh s.length (ints s)) (hi : Its wr ok v l) (hr : ¬ ok r) (x y z : Value) :
    IsP (((wr.setCell ⟨r, 0, none⟩ x).setCell ⟨r, 1, none⟩ y).setCell ⟨r, 2, none⟩ z) ok (.agg #[sh, v, .int .i64 f]) (.mk s l f) :=
  (IsP.of hs hi).keep (((Kept.setCell _ _ _ hr).trans (Kept.setCell _ _ _ hr)).trans (Kept.setCell _ _ _ hr)) (fun _ _ h => h)
/-- What holds at the head of a round of Tidy. -/
def TRel (w : World) (ok : Nat → Prop) (B : Nat) (x y z sh f : Value) (k : Nat) (v : Value) (L : List QI) (l : List PI) (wr : World) : Prop :=
  wr.ownsRow B 34 4 v k (flatI L) ∧ Quad wr (fun b => ((ok b ∧ b < w.heap.size) ∨ B ≤ b) ∧ v.ownBlock ≠ some b) L l ∧ At3 wr w.heap.size x y z ∧ At3 wr (w.heap.size + 1) (.slice none 0 0) (.slice none 0 0) (.int .i64 0) ∧ At3 wr (w.heap.size + 1 + 1) sh v f ∧ Below w.heap.size w wr
theorem TRel.step {w wr W3 w5 : World} {ok : Nat → Prop} {B k : Nat} {x y z sh f v v' bx : Value} {L : List QI} {l : List PI} {t : PI} {o : Obj} (h : TRel w ok B x y z sh f k v L l wr) (hB : w.heap.size + 1 + 1 < B) (h3 : Below wr.heap.size wr W3)
    (hb : IsB W3 (fun b => ((ok b ∧ b < w.heap.size) ∨ B ≤ b) ∧ v.ownBlock ≠ some b) bx t.2.2.2) (hown : w5.ownsRow B 34 4 v' (k + 1) (flatI L ++ quadV (t.1, t.2.1, t.2.2.1, bx))) (hg : (W3.alloc o).grownBy w5 v.ownBlock)
    (hk : ∀ j, v'.ownBlock = some j → v.ownBlock = some j ∨ (W3.alloc o).heap.size ≤ j) : TRel w ok B x y z sh f (k + 1) v' (L ++ [(t.1, t.2.1, t.2.2.1, bx)]) (l ++ [t]) (w5.setCell ⟨w.heap.size + 1 + 1, 1, none⟩ v') := by
  obtain ⟨h1, h2, h4, h5, h6, h7⟩ := h
  have hsz : w.heap.size ≤ wr.heap.size := h7.size
  have h34 : Below W3.heap.size W3 (W3.alloc o) := below_new _ _
  have hr4 : Below wr.heap.size wr (W3.alloc o) := h3.trans (h34.mono h3.size)
  have hnot : ∀ b, b < B → some b ≠ v.ownBlock := fun b hb e => by have := (h1.lt b e.symm).1; omega
  have hA : ∀ {b : Nat} {x y z : Value}, b < B → At3 wr b x y z → At3 w5 b x y z := fun hb ha => (ha.below hr4).grown hg (hnot _ hb)
  refine ⟨?_, ?_, ?_, ?_, ?_, ?_⟩
  · rw [flatI_snoc]
    exact ownsRow_setCell_below hown (by show w.heap.size + 1 + 1 < B; omega) _
  · refine Quad.keep (w := w5) (ok := fun b => ((ok b ∧ b < w.heap.size) ∨ B ≤ b) ∧ v'.ownBlock ≠ some b) (Kept.setCell _ _ _ (by
      rintro ⟨h | h, _⟩
      · have := h.2; simp at this; omega
      · simp at h; omega)) (fun b _ h => h) ?_
    refine Quad.keep (w := W3) (ok := fun b => ((ok b ∧ b < w.heap.size) ∨ B ≤ b) ∧ v.ownBlock ≠ some b) (Kept.trans (Kept.below h34) (Kept.grown hg (fun b hb e => hb.2 e.symm))) (fun b hb ho => ⟨ho.1, fun e => ?_⟩) ((h2.keep (Kept.below h3) (fun _ _ h => h)).snoc hb)
    rcases hk b e with e2 | e2
    · exact ho.2 e2
    · have := h34.size; omega
  · exact (hA (by omega) h4).other _ (by simp; omega) _
  · exact (hA (by omega) h5).other _ (by simp) _
  · exact (hA (by omega) h6).set1 _
  · refine Below.setCell ?_ (by show w.heap.size ≤ w.heap.size + 1 + 1; omega) _
    exact (h7.trans (hr4.mono hsz)).grown hg (by have := hr4.size; omega) (fun j hj => by have := (h1.lt j hj).1; omega)

set_option maxHeartbeats 4000000 in
theorem ptidy_calls (d : Nat) : ∀ (ok : Nat → Prop) (p : PA) (u : Value) (w : World), chk d p = 0 → IsP w ok u p → Calls Tryz.prog 8 #[u] w (PlainIs (tidyP d p) ok w) := by
  induction d with
  | zero => intro ok p u w hc; simp [chk] at hc
  | succ d ih =>
    intro ok p u w hc hp
    obtain ⟨so, sc, io, ic, rfl, hs, hit⟩ := hp.opened
    have HW := Lib.hid (chk_well.1 hc)
    have HI := Lib.hid hit.lt; have HS := Lib.hid hs.ltw
    obtain ⟨_, _, e1, e4, e5⟩ := hit.len
    cases e1
    unfold maxLen at e5
    have HIH := Lib.hid ih
    have hpl := (prodR_len (chk_well.1 hc).2.2.1).2
    clear hit hs hp ih hc
    obtain ⟨i0, hi, hz0, hz1, hz2⟩ := info_parts info_item
    have HI0 := Lib.hid (And.intro hi (And.intro hz0 (And.intro hz1 hz2)))
    clear hi hz0 hz1 hz2
    have hsf := run_store_float
    obtain ⟨W1, hW1⟩ : ∃ W1, W1 = ((w.alloc (.cells #[.slice so p.s.length sc, .slice io p.l.length ic, .int .i64 p.f] 25)).alloc (.cells #[.slice none 0 0, .slice none 0 0, .int .i64 0] 25)).alloc (.cells #[.slice so p.s.length sc, .slice none 0 0, .int .i64 p.f] 25) := ⟨_, rfl⟩
    have HSW1 := Lib.hid (show w.heap.size + 1 + 1 < W1.heap.size by rw [hW1]; simp)
    have HR0 := Lib.hid (show TRel w ok W1.heap.size (.slice so p.s.length sc) (.slice io p.l.length ic) (.int .i64 p.f) (.slice so p.s.length sc) (.int .i64 p.f) 0 (.slice none 0 0) [] [] W1 by
      refine ⟨World.ownsRow_nil _ _ _ _, Quad.nil _ _, ?_, ?_, ?_, ?_⟩
      · rw [hW1]; exact ((At3.new w _ _ _ _).below (below_new _ _)).below (below_new _ _)
      · rw [hW1]; have := (At3.new (w.alloc (.cells #[.slice so p.s.length sc, .slice io p.l.length ic, .int .i64 p.f] 25)) (.slice none 0 0) (.slice none 0 0) (.int .i64 0) 25).below (below_new _ (.cells #[.slice so p.s.length sc, .slice none 0 0, .int .i64 p.f] 25)); simpa using this
      · rw [hW1]; have := At3.new ((w.alloc (.cells #[.slice so p.s.length sc, .slice io p.l.length ic, .int .i64 p.f] 25)).alloc (.cells #[.slice none 0 0, .slice none 0 0, .int .i64 0] 25)) (.slice so p.s.length sc) (.slice none 0 0) (.int .i64 p.f) 25; simpa using this
      · rw [hW1]; exact (((Below.refl _ _).alloc (Nat.le_refl _) _).alloc (by simp) _).alloc (by simp; omega) _)
    go_enter Tryz.func8, Tryz.ntmps8
    go_wp2_with fail
    rw [← hW1]
    clear hW1
    go_loopw [4] (fun i wr => ∃ (k : Nat) (V : Value) (L : List QI), k ≤ p.l.length ∧ i = .int .i64 k ∧ TRel w ok W1.heap.size (.slice so p.s.length sc) (.slice io p.l.length ic) (.int .i64 p.f) (.slice so p.s.length sc) (.int .i64 p.f) k V L ((p.l.take k).map (tidyI (tidyP d))) wr ∧ W1.heap.size ≤ wr.heap.size) (fun i _ => p.l.length - (intOf i).toNat)
    case atStart => exact ⟨0, _, _, by omega, rfl, by simpa using HR0.out, Nat.le_refl _⟩
    case round =>
      obtain ⟨k, V, L, hk, rfl, hR, hSW⟩ := hrel
      obtain ⟨ao, cap, rfl⟩ := owns_form hR.1
      have HR := Lib.hid hR; have HSW := Lib.hid hSW
      obtain ⟨_, a0, a1, a2, _⟩ := hR.2.2.1
      obtain ⟨_, o0, o1, o2, of⟩ := hR.2.2.2.2.1
      have HBr := Lib.hid hR.2.2.2.2.2; clear hR
      by_cases hlt : k < p.l.length
      · have hx := List.getElem?_eq_getElem hlt
        obtain ⟨x, hxx⟩ : ∃ x, x = p.l[k] := ⟨_, rfl⟩
        rw [← hxx] at hx
        clear hxx; have HX := Lib.hid hx
        obtain ⟨hkf, hbx2, hfin⟩ := HW.out.2.2.2 x (List.mem_of_getElem? hx)
        have HBX2 := Lib.hid hbx2; have HFIN := Lib.hid hfin
        obtain ⟨b, off, bo, bc, rfl, _, c0, c1, c2, c3, hbx⟩ := (HI.out.grow HBr.out).at hx
        obtain ⟨_, _, e1, e6, e7⟩ := hbx.len
        cases e1
        unfold maxLen at e7
        obtain ⟨kd, nm, ch, bx⟩ := x
        simp only at c0 c1 c2 c3 e6 hkf HBX2 HFIN
        have HBX := Lib.hid hbx
        simp only at HBX
        have HKF := Lib.hid hkf; have HFS := Lib.hid HW.out.1; have HFS2 := Lib.hid HW.out.2.1; clear hx hbx hbx2 hfin
        obtain ⟨W2, hW2⟩ : ∃ W2, W2 = wr.alloc (.cells #[.int .i64 kd, .float .f64 0, .int .i32 0, .slice none 0 0] 34) := ⟨_, rfl⟩
        have HA4 := Lib.hid (show Blk4 W2 wr.heap.size _ _ _ _ by rw [hW2]; exact Blk4.new wr _ _ _ _ _)
        have HB2 := Lib.hid (show Below wr.heap.size wr W2 by rw [hW2]; exact below_new _ _)
        obtain ⟨_, d0, d1, d2, d3, df⟩ := HA4.out
        have g0 := keep_below HB2.out _ _ c0
        have g1 := keep_below HB2.out _ _ c1
        have g2 := keep_below HB2.out _ _ c2
        have g3 := keep_below HB2.out _ _ c3
        have hfold := hW2.symm
        clear hW2 hkf
        have HG := Lib.hid (And.intro c0 (And.intro c1 (And.intro c2 c3)))
        have a1' := (HR.out.2.2.1.below HB2.out).2.2.1
        by_cases hk0 : kd = 0
        · subst hk0
          have hF := HFIN.out rfl
          have HF := Lib.hid hF
          have HTI := Lib.hid (show [tidyI (tidyP d) (0, nm, ch, bx)] = [(0, ze nm, 0, [])] by simp [tidyI])
          obtain ⟨W3, hW3⟩ : ∃ W3, W3 = W2.setCell ⟨wr.heap.size, 1, none⟩ (.float .f64 (ze nm)) := ⟨_, rfl⟩
          have HA3 := Lib.hid (show Blk4 W3 wr.heap.size _ _ _ _ by rw [hW3]; exact HA4.out.set1 _)
          have HB3 := Lib.hid (show Below wr.heap.size wr W3 by rw [hW3]; exact HB2.out.setCell (Nat.le_refl _) _)
          have HBXT := Lib.hid (IsB.nil W3 (fun b => ((ok b ∧ b < w.heap.size) ∨ W1.heap.size ≤ b) ∧ (Value.slice ao k cap).ownBlock ≠ some b))
          have hfold3 := hW3.symm
          have HFD3 := Lib.hid hfold3
          have df1 := df 1
          have HFW := Lib.hid hfold
          rw [← hfold] at g0 g1 g2 g3 a1'
          clear hF hW3 hfold3 hfold d0 d1 d2 d3
          go_wp2_with fail
          rw [HFW.out]; have hfold3 := HFD3.out
          obtain ⟨_, d0, d1, d2, d3, _⟩ := HA4.out
          clear g0 g1 g2 g3
          have g0 := keep_below HB2.out _ _ HG.out.1
          have g1 := keep_below HB2.out _ _ HG.out.2.1
          have g2 := keep_below HB2.out _ _ HG.out.2.2.1
          have g3 := keep_below HB2.out _ _ HG.out.2.2.2
          refine (rtidy_fin nm _ HF.out).mono ?_
          rintro e w' ⟨rfl, rfl⟩
          clear df g0 g1 g2 g3 c0 c1 c2 c3
          obtain ⟨_, y0, y1, y2, y3, _⟩ := HA3.out
          have y4 := (HR.out.2.2.1.below HB3.out).2.2.1
          have y5 := (HR.out.2.2.2.2.1.below HB3.out).2.2.1
          obtain ⟨W4, hW4⟩ : ∃ W4, W4 = W3.alloc (.cells #[.int .i64 0, .float .f64 (ze nm), .int .i32 0, .slice none 0 0] 34) := ⟨_, rfl⟩
          have HO4 := Lib.hid (show W4.ownsRow W1.heap.size 34 4 (.slice ao k cap) k (flatI L) by rw [hW4]; exact (owns_below2 HR.out.1 HB3.out).alloc _)
          have HN4 := Lib.hid (show ∀ j u, (quadV (0, (ze nm), 0, .slice none 0 0))[j]? = some u → W4.cell? ((⟨W3.heap.size, 0, none⟩ : Addr).add j) = some u by rw [hW4]; exact cell_four_new _ _ _ _ _ _)
          have HSZ := Lib.hid (show W1.heap.size ≤ W4.heap.size by rw [hW4]; have := HB3.out.size; have := HSW.out; simp; omega)
          have HON := Lib.hid (show ∀ u ∈ quadV (0, (ze nm), 0, .slice none 0 0), u.oneCell' = true by intro u hu; simp [quadV] at hu; rcases hu with rfl | rfl | rfl | rfl <;> rfl)
          have HAo := Lib.hid ((HR.out.2.2.2.2.1.below HB3.out).below (below_new W3 (.cells #[.int .i64 0, .float .f64 (ze nm), .int .i32 0, .slice none 0 0] 34)))
          rw [← hW4] at HAo
          obtain ⟨_, q0, q1, q2, _⟩ := HAo.out
          have hfold4 := hW4.symm
          have HW4 := Lib.hid hW4; clear hW4
          obtain ⟨hi, hz0, hz1, hz2⟩ := HI0.out
          have HM1 : Hid (k + 1 ≤ maxLen) := Lib.hid (by unfold maxLen; omega)
          have HM2 : Hid ((k + 1) * 48 ≤ 140737488355328) := Lib.hid (by omega)
          clear hi hz0 hz1 hz2
          go_wp2_with (at_builtin; refine wpList_append_blk _ rfl _ _ 23 rfl W1.heap.size 34 i0 _ 4 48 Tryz.underlying23 HI0.out.1 HI0.out.2.1 HI0.out.2.2.1 HI0.out.2.2.2 rfl (by decide) _ k (flatI L) rfl HO4.out ⟨W3.heap.size, 0, none⟩ 1 1 (quadV (0, (ze nm), 0, .slice none 0 0)) rfl rfl HN4.out HON.out HM1.out HM2.out HSZ.out ?_)
          intro v' w5 hown hgrow hblk
          obtain ⟨ao', cap', rfl⟩ := owns_form hown
          have HS5 := Lib.hid (HR.out.step (t := (0, ze nm, 0, [])) HSW1.out HB3.out HBXT.out hown (by rw [← HW4.out]; exact hgrow) (by rw [← HW4.out]; exact hblk))
          have HAo5 := Lib.hid (HAo.out.grown hgrow (by intro e; have := (HO4.out.lt _ e.symm).1; have := HSW1.out; omega))
          have HZ5 := Lib.hid (show W1.heap.size ≤ w5.heap.size from Nat.le_trans HSZ.out hgrow.size)
          obtain ⟨_, r0, r1, r2, rf⟩ := HAo5.out
          have r3 := rf 1
          clear hown hgrow hblk hfold4 q0 q1 q2 rf
          go_wp2_with fail
          go_roundw
          case rel =>
            refine ⟨k + 1, .slice ao' (k + 1) cap', L ++ [(0, (ze nm), 0, .slice none 0 0)], by omega, by go_num, ?_, by simpa using HZ5.out⟩
            rw [ptake HX.out, List.map_append, List.map_cons, List.map_nil, HTI.out]
            exact HS5.out
          case measure => simp [intOf]; omega
        have h0e : (kd == 0) = false := by simpa using hk0
        by_cases hk1 : kd = 1
        · subst hk1
          have HTI := Lib.hid (show [tidyI (tidyP d) (1, nm, ch, bx)] = [(1, 0, ch, [])] by simp [tidyI])
          obtain ⟨W3, hW3⟩ : ∃ W3, W3 = wr.alloc (.cells #[.int .i64 1, .float .f64 0, .int .i32 ch, .slice none 0 0] 34) := ⟨_, rfl⟩
          have HA3 := Lib.hid (show Blk4 W3 wr.heap.size _ _ _ _ by rw [hW3]; exact Blk4.new _ _ _ _ _ _)
          have HB3 := Lib.hid (show Below wr.heap.size wr W3 by rw [hW3]; exact below_new _ _)
          have HBXT := Lib.hid (IsB.nil W3 (fun b => ((ok b ∧ b < w.heap.size) ∨ W1.heap.size ≤ b) ∧ (Value.slice ao k cap).ownBlock ≠ some b))
          have hfold3 := hW3.symm
          rw [← hfold] at g0 g1 g2 g3 a1'
          clear hW3 hk0 hfold d0 d1 d2 d3 df
          obtain ⟨_, y0, y1, y2, y3, _⟩ := HA3.out
          have y4 := (HR.out.2.2.1.below HB3.out).2.2.1
          have y5 := (HR.out.2.2.2.2.1.below HB3.out).2.2.1
          obtain ⟨W4, hW4⟩ : ∃ W4, W4 = W3.alloc (.cells #[.int .i64 1, .float .f64 0, .int .i32 ch, .slice none 0 0] 34) := ⟨_, rfl⟩
          have HO4 := Lib.hid (show W4.ownsRow W1.heap.size 34 4 (.slice ao k cap) k (flatI L) by rw [hW4]; exact (owns_below2 HR.out.1 HB3.out).alloc _)
          have HN4 := Lib.hid (show ∀ j u, (quadV (1, 0, ch, .slice none 0 0))[j]? = some u → W4.cell? ((⟨W3.heap.size, 0, none⟩ : Addr).add j) = some u by rw [hW4]; exact cell_four_new _ _ _ _ _ _)
          have HSZ := Lib.hid (show W1.heap.size ≤ W4.heap.size by rw [hW4]; have := HB3.out.size; have := HSW.out; simp; omega)
          have HON := Lib.hid (show ∀ u ∈ quadV (1, 0, ch, .slice none 0 0), u.oneCell' = true by intro u hu; simp [quadV] at hu; rcases hu with rfl | rfl | rfl | rfl <;> rfl)
          have HAo := Lib.hid ((HR.out.2.2.2.2.1.below HB3.out).below (below_new W3 (.cells #[.int .i64 1, .float .f64 0, .int .i32 ch, .slice none 0 0] 34)))
          rw [← hW4] at HAo
          obtain ⟨_, q0, q1, q2, _⟩ := HAo.out
          have hfold4 := hW4.symm
          have HW4 := Lib.hid hW4; clear hW4
          obtain ⟨hi, hz0, hz1, hz2⟩ := HI0.out
          have HM1 : Hid (k + 1 ≤ maxLen) := Lib.hid (by unfold maxLen; omega)
          have HM2 : Hid ((k + 1) * 48 ≤ 140737488355328) := Lib.hid (by omega)
          clear hi hz0 hz1 hz2
          go_wp2_with (at_builtin; refine wpList_append_blk _ rfl _ _ 23 rfl W1.heap.size 34 i0 _ 4 48 Tryz.underlying23 HI0.out.1 HI0.out.2.1 HI0.out.2.2.1 HI0.out.2.2.2 rfl (by decide) _ k (flatI L) rfl HO4.out ⟨W3.heap.size, 0, none⟩ 1 1 (quadV (1, 0, ch, .slice none 0 0)) rfl rfl HN4.out HON.out HM1.out HM2.out HSZ.out ?_)
          intro v' w5 hown hgrow hblk
          obtain ⟨ao', cap', rfl⟩ := owns_form hown
          have HS5 := Lib.hid (HR.out.step (t := (1, 0, ch, [])) HSW1.out HB3.out HBXT.out hown (by rw [← HW4.out]; exact hgrow) (by rw [← HW4.out]; exact hblk))
          have HAo5 := Lib.hid (HAo.out.grown hgrow (by intro e; have := (HO4.out.lt _ e.symm).1; have := HSW1.out; omega))
          have HZ5 := Lib.hid (show W1.heap.size ≤ w5.heap.size from Nat.le_trans HSZ.out hgrow.size)
          obtain ⟨_, r0, r1, r2, rf⟩ := HAo5.out
          have r3 := rf 1
          clear hown hgrow hblk hfold4 q0 q1 q2 rf
          go_wp2_with fail
          go_roundw
          case rel =>
            refine ⟨k + 1, .slice ao' (k + 1) cap', L ++ [(1, 0, ch, .slice none 0 0)], by omega, by go_num, ?_, by simpa using HZ5.out⟩
            rw [ptake HX.out, List.map_append, List.map_cons, List.map_nil, HTI.out]
            exact HS5.out
          case measure => simp [intOf]; omega
        · have hk2 : kd = 2 := by have := HKF.out; have := HFS.out; have := HFS2.out; omega
          subst hk2
          obtain ⟨q, hq, hcq⟩ := HBX2.out rfl
          have hl1 : bx.length = 1 := by rw [hq]; rfl
          have HTI := Lib.hid (show [tidyI (tidyP d) (2, nm, ch, bx)] = [(2, 0, 0, [tidyP d q])] by rw [hq]; rfl)
          obtain ⟨b', off', so', sc', io', ic', rfl, _, f0, f1, f2, hP⟩ := (HBX.out.grow HB2.out).at (k := 0) (by rw [hq]; rfl : bx[0]? = some q)
          have hlen0 : 0 < bx.length := by omega
          have HQ := Lib.hid (HIH.out (fun b => ok b ∧ b < w.heap.size) q _ W2 hcq hP)
          have HFW := Lib.hid hfold
          obtain ⟨T, hT⟩ : ∃ T, T = tidyP d q := ⟨_, rfl⟩
          rw [← hT] at HQ HTI
          simp only [Nat.zero_mul, Nat.add_zero] at f0 f1 f2
          rw [← hfold] at g0 g1 g2 g3 a1' f0 f1 f2
          clear hk0 hk1 h0e hfold d0 d1 d2 d3 df hq hcq hP hl1 hT
          go_wp2_with fail
          rw [HFW.out]
          refine HQ.out.mono ?_
          rintro e W2b ⟨uT, rfl, hTP, hBT⟩
          obtain ⟨so2, sc2, io2, ic2, rfl, _⟩ := hTP.opened
          have HTP := Lib.hid hTP; have HBT := Lib.hid hBT
          obtain ⟨W2c, hW2c⟩ : ∃ W2c, W2c = W2b.alloc (.cells #[.slice so2 T.s.length sc2, .slice io2 T.l.length ic2, .int .i64 T.f] 25) := ⟨_, rfl⟩
          obtain ⟨W3, hW3⟩ : ∃ W3, W3 = W2c.setCell ⟨wr.heap.size, 3, none⟩ (.slice (some ⟨W2b.heap.size, 0, none⟩) 1 1) := ⟨_, rfl⟩
          have HBc := Lib.hid (show Below W2b.heap.size W2b W2c by rw [hW2c]; exact below_new _ _)
          have HB2c := Lib.hid (HB2.out.trans ((HBT.out.trans (HBc.out.mono HBT.out.size)).mono HB2.out.size))
          have HA3c := Lib.hid ((HA4.out.below HBT.out).below HBc.out)
          have HA3 := Lib.hid (show Blk4 W3 wr.heap.size _ _ _ _ by rw [hW3]; exact HA3c.out.set3 (.slice (some ⟨W2b.heap.size, 0, none⟩) 1 1))
          have HB3 := Lib.hid (show Below wr.heap.size wr W3 by rw [hW3]; exact HB2c.out.setCell (Nat.le_refl _) _)
          have HBXT := Lib.hid (show IsB W3 (fun b => ((ok b ∧ b < w.heap.size) ∨ W1.heap.size ≤ b) ∧ (Value.slice ao k cap).ownBlock ≠ some b) (.slice (some ⟨W2b.heap.size, 0, none⟩) 1 1) [T] by
            have hob : ∀ b, (Value.slice ao k cap).ownBlock = some b → W1.heap.size ≤ b ∧ b < wr.heap.size := HR.out.1.lt
            have hs1 := HB2.out.size; have hs2 := HBT.out.size
            have hwr : wr.heap.size < W2.heap.size := HA4.out.1
            have hsw := HSW.out; have hsw1 := HSW1.out
            have hn : ∀ b, W2.heap.size ≤ b → (Value.slice ao k cap).ownBlock ≠ some b := fun b hb e => by have := (hob b e).2; omega
            have hn2 : ∀ b, b < w.heap.size → (Value.slice ao k cap).ownBlock ≠ some b := fun b hb e => by have := (hob b e).1; omega
            have hkeep : Kept (fun b => ((ok b ∧ b < w.heap.size) ∨ W2.heap.size ≤ b)) W2b W3 := by
              rw [hW3]
              exact (Kept.below HBc.out).trans (Kept.setCell _ _ _ (by rintro (h | h); · have := h.2; simp at this; omega
                                                                       · simp at h; omega))
            refine ⟨_, 1, fun _ => .slice so2 T.s.length sc2, fun _ => .slice io2 T.l.length ic2, fun _ => .int .i64 T.f, rfl, by simp, by unfold maxLen; omega, fun j hj => ?_, fun j r hr => ?_⟩
            · obtain rfl : j = 0 := by simp at hj; omega
              obtain ⟨_, m0, m1, m2, _⟩ := At3.new W2b (.slice so2 T.s.length sc2) (.slice io2 T.l.length ic2) (.int .i64 T.f) 25
              refine ⟨_, 0, rfl, ⟨.inr (by omega), hn _ (by omega)⟩, ?_, ?_, ?_⟩
              · rw [hW3, World.cell?_setCell_other _ _ _ _ (by simp), hW2c]; exact m0
              · rw [hW3, World.cell?_setCell_other _ _ _ _ (by simp), hW2c]; exact m1
              · rw [hW3, World.cell?_setCell_other _ _ _ _ (by simp), hW2c]; exact m2
            · have : r = T := by
                match j with
                | 0 => simpa using hr.symm
                | j + 1 => simp at hr
              subst this
              refine (HTP.out.wide (ok' := fun b => ((ok b ∧ b < w.heap.size) ∨ W2.heap.size ≤ b)) (fun b _ h => ?_)).keep hkeep (fun b _ h => ?_)
              · rcases h with h | h
                · exact .inl h.1
                · exact .inr h
              · rcases h with h | h
                · exact ⟨.inl h, hn2 _ h.2⟩
                · exact ⟨.inr (by omega), hn _ h⟩)
          have hfold2 := hW2c.symm
          have hfold3 := hW3.symm
          obtain ⟨_, d0, d1, d2, d3, df⟩ := HA3c.out
          have df3 := df 3
          clear hTP hBT hW2c hW3 g0 g1 g2 g3 f0 f1 f2 a1' c0 c1 c2 c3 df o0 o1 o2 of a0 a1 a2
          obtain ⟨_, y0, y1, y2, y3, _⟩ := HA3.out
          have y4 := (HR.out.2.2.1.below HB3.out).2.2.1
          have y5 := (HR.out.2.2.2.2.1.below HB3.out).2.2.1
          obtain ⟨W4, hW4⟩ : ∃ W4, W4 = W3.alloc (.cells #[.int .i64 2, .float .f64 0, .int .i32 0, .slice (some ⟨W2b.heap.size, 0, none⟩) 1 1] 34) := ⟨_, rfl⟩
          have HO4 := Lib.hid (show W4.ownsRow W1.heap.size 34 4 (.slice ao k cap) k (flatI L) by rw [hW4]; exact (owns_below2 HR.out.1 HB3.out).alloc _)
          have HN4 := Lib.hid (show ∀ j u, (quadV (2, 0, 0, .slice (some ⟨W2b.heap.size, 0, none⟩) 1 1))[j]? = some u → W4.cell? ((⟨W3.heap.size, 0, none⟩ : Addr).add j) = some u by rw [hW4]; exact cell_four_new _ _ _ _ _ _)
          have HSZ := Lib.hid (show W1.heap.size ≤ W4.heap.size by rw [hW4]; have := HB3.out.size; have := HSW.out; simp; omega)
          have HON := Lib.hid (show ∀ u ∈ quadV (2, 0, 0, .slice (some ⟨W2b.heap.size, 0, none⟩) 1 1), u.oneCell' = true by intro u hu; simp [quadV] at hu; rcases hu with rfl | rfl | rfl | rfl <;> rfl)
          have HAo := Lib.hid ((HR.out.2.2.2.2.1.below HB3.out).below (below_new W3 (.cells #[.int .i64 2, .float .f64 0, .int .i32 0, .slice (some ⟨W2b.heap.size, 0, none⟩) 1 1] 34)))
          rw [← hW4] at HAo
          obtain ⟨_, q0, q1, q2, _⟩ := HAo.out
          have hfold4 := hW4.symm
          have HW4 := Lib.hid hW4; clear hW4
          obtain ⟨hi, hz0, hz1, hz2⟩ := HI0.out
          have HM1 : Hid (k + 1 ≤ maxLen) := Lib.hid (by unfold maxLen; omega)
          have HM2 : Hid ((k + 1) * 48 ≤ 140737488355328) := Lib.hid (by omega)
          clear hi hz0 hz1 hz2
          go_wp2_with (at_builtin; refine wpList_append_blk _ rfl _ _ 23 rfl W1.heap.size 34 i0 _ 4 48 Tryz.underlying23 HI0.out.1 HI0.out.2.1 HI0.out.2.2.1 HI0.out.2.2.2 rfl (by decide) _ k (flatI L) rfl HO4.out ⟨W3.heap.size, 0, none⟩ 1 1 (quadV (2, 0, 0, .slice (some ⟨W2b.heap.size, 0, none⟩) 1 1)) rfl rfl HN4.out HON.out HM1.out HM2.out HSZ.out ?_)
          intro v' w5 hown hgrow hblk
          obtain ⟨ao', cap', rfl⟩ := owns_form hown
          have HS5 := Lib.hid (HR.out.step (t := (2, 0, 0, [T])) HSW1.out HB3.out HBXT.out hown (by rw [← HW4.out]; exact hgrow) (by rw [← HW4.out]; exact hblk))
          have HAo5 := Lib.hid (HAo.out.grown hgrow (by intro e; have := (HO4.out.lt _ e.symm).1; have := HSW1.out; omega))
          have HZ5 := Lib.hid (show W1.heap.size ≤ w5.heap.size from Nat.le_trans HSZ.out hgrow.size)
          obtain ⟨_, r0, r1, r2, rf⟩ := HAo5.out
          have r3 := rf 1
          clear hown hgrow hblk hfold4 q0 q1 q2 rf
          go_wp2_with fail
          go_roundw
          case rel =>
            refine ⟨k + 1, .slice ao' (k + 1) cap', L ++ [(2, 0, 0, .slice (some ⟨W2b.heap.size, 0, none⟩) 1 1)], by omega, by go_num, ?_, by simpa using HZ5.out⟩
            rw [ptake HX.out, List.map_append, List.map_cons, List.map_nil, HTI.out]
            exact HS5.out
          case measure => simp [intOf]; omega
      · have hkl : k = p.l.length := by omega
        have HTK := Lib.hid (show (p.l.take k).map (tidyI (tidyP d)) = p.l.map (tidyI (tidyP d)) by rw [hkl, List.take_length])
        rw [HTK.out] at HR
        have HFIN := Lib.hid (plain_done (f := p.f) (r := w.heap.size + 1) (ok := fun b => (ok b ∧ b < w.heap.size) ∨ W1.heap.size ≤ b) ((HS.out.below HBr.out).keep (Kept.refl _ _) (fun b _ h => .inl h)) ((Its.of_own HR.out.1 HR.out.2.1).wide (fun b _ h => by
          rcases h with h | h
          · exact h.1
          · exact .inr h)) (by
          have := HSW1.out
          rintro (h | h)
          · have := h.2; omega
          · omega))
        have HBF := Lib.hid (show ∀ x y z, Below w.heap.size w (((wr.setCell ⟨w.heap.size + 1, 0, none⟩ x).setCell ⟨w.heap.size + 1, 1, none⟩ y).setCell ⟨w.heap.size + 1, 2, none⟩ z) from fun x y z => ((HBr.out.setCell (by show w.heap.size ≤ w.heap.size + 1; omega) _).setCell (by show w.heap.size ≤ w.heap.size + 1; omega) _).setCell (by show w.heap.size ≤ w.heap.size + 1; omega) _)
        obtain ⟨_, r0, r1, r2, rf⟩ := HR.out.2.2.2.1
        have rf0 := rf 0
        have rf1 := rf 1
        have rf2 := rf 2
        clear hkl rf
        go_wp2_with fail
        refine bodyPost_ret (v := .agg #[.slice so p.s.length sc, .slice ao k cap, .int .i64 p.f]) (by simp [results, Tryz.results8, go_sem, r0, r1, r2]) rfl ⟨_, rfl, ?_, HBF.out _ _ _⟩
        exact (HFIN.out _ _ _).wide (fun b _ h => by
          have := HSW1.out
          rcases h with h | h
          · exact .inl h
          · exact .inr (by omega))
end Go.Proofs.YtbdhibcbpgjbmaaGreatDoor
