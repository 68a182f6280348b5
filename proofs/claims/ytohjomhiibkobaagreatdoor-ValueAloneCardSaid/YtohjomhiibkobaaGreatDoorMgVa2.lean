/- Merged: VbD, VbE, VaB, VbF, VbG, VbH. -/
import Derived.OpenShut
import Derived.Test.YtohjomhiibkobaaGreatDoorMgVa1
/- The reference's Nums. -/
namespace Go.Proofs.YtohjomhiibkobaaGreatDoor
open Go.RowKit Fl
set_option linter.unusedVariables false
set_option maxRecDepth 100000

def numI (x : Nat) : PI := (0, x, 0, [])
/-- A plain array of numbers, of one axis. -/
def numsP (l : List Nat) : PA := .mk [(l.length : Int)] (l.map numI) 0
def NRel (w : World) (n : Int) (B : Nat) (k : Nat) (v : Value) (L : List QI) (l : List PI) (wr : World) : Prop :=
  wr.ownsRow B 47 4 v k (flatI L) ∧ Quad wr (fun b => B ≤ b ∧ v.ownBlock ≠ some b) L l ∧ At3 wr w.heap.size (.slice none 0 0) (.slice none 0 0) (.int .i64 0) ∧ At3 wr (w.heap.size + 1 + 1) (.slice (some ⟨w.heap.size + 1, 0, none⟩) 1 1) v (.int .i64 0) ∧ Slc wr (fun b => b = w.heap.size + 1) (.slice (some ⟨w.heap.size + 1, 0, none⟩) 1 1) 1 (ints [n]) ∧ Below w.heap.size w wr
theorem NRel.step {w wr W4 w5 : World} {B k : Nat} {n : Int} {v v' : Value} {L : List QI} {l : List PI} {x : Nat} (h : NRel w n B k v L l wr) (hB : w.heap.size + 1 + 1 < B) (hr4 : Below wr.heap.size wr W4)
    (hown : w5.ownsRow B 47 4 v' (k + 1) (flatI L ++ quadV (0, x, 0, .slice none 0 0))) (hg : W4.grownBy w5 v.ownBlock)
    (hk : ∀ j, v'.ownBlock = some j → v.ownBlock = some j ∨ W4.heap.size ≤ j) : NRel w n B (k + 1) v' (L ++ [(0, x, 0, .slice none 0 0)]) (l ++ [numI x]) (w5.setCell ⟨w.heap.size + 1 + 1, 1, none⟩ v') := by
  obtain ⟨h1, h2, h4, h6, h5, h7⟩ := h
  have hsz : w.heap.size ≤ wr.heap.size := h7.size
  have hnot : ∀ b, b < B → some b ≠ v.ownBlock := fun b hb e => by have := (h1.lt b e.symm).1; omega
  have hA : ∀ {b : Nat} {x y z : Value}, b < B → At3 wr b x y z → At3 w5 b x y z := fun hb ha => (ha.below hr4).grown hg (hnot _ hb)
  refine ⟨?_, ?_, ?_, ?_, ?_, ?_⟩
  · rw [flatI_snoc]
    exact ownsRow_setCell_below hown (by show w.heap.size + 1 + 1 < B; omega) _
  · refine Quad.keep (w := w5) (ok := fun b => B ≤ b ∧ v'.ownBlock ≠ some b) (Kept.setCell _ _ _ (by
      rintro ⟨h, _⟩
      simp at h; omega)) (fun b _ h => h) ?_
    refine Quad.keep (w := wr) (ok := fun b => B ≤ b ∧ v.ownBlock ≠ some b) (Kept.trans (Kept.below hr4) (Kept.grown hg (fun b hb e => hb.2 e.symm))) (fun b hb ho => ⟨ho.1, fun e => ?_⟩) (h2.snoc (x := numI x) (IsB.nil _ _))
    rcases hk b e with e2 | e2
    · exact ho.2 e2
    · have := hr4.size; omega
  · exact (hA (by omega) h4).other _ (by simp; omega) _
  · exact (hA (by omega) h6).set1 _
  · exact h5.keep (Kept.trans (Kept.trans (Kept.below hr4) (Kept.grown hg (fun b hb e => hnot b (by omega) e))) (Kept.setCell _ _ _ (by simp))) (fun _ _ h => h)
  · refine Below.setCell ?_ (by show w.heap.size ≤ w.heap.size + 1 + 1; omega) _
    exact (h7.trans (hr4.mono hsz)).grown hg (by have := hr4.size; omega) (fun j hj => by have := (h1.lt j hj).1; omega)

set_option maxHeartbeats 4000000 in
theorem rNums_calls {ok : Nat → Prop} (v : Value) (l : List Nat) (w : World) (hv : Slc w ok v l.length (f64s l)) (hm : l.length ≤ 100000) : Calls Tryz.prog 23 #[v] w (fun e w' => ∃ u, e = .returned u ∧ IsP w' (fun b => w.heap.size ≤ b) u (numsP l) ∧ Below w.heap.size w w') := by
  have HV := Lib.hid hv.lt
  obtain ⟨ao0, cap0, rfl, hc0, hc1, _⟩ := hv.opened
  unfold maxLen at hc1
  obtain ⟨i0, hi, hz0, hz1, hz2⟩ := info_parts info_item
  have HI0 := Lib.hid (And.intro hi (And.intro hz0 (And.intro hz1 hz2)))
  clear hi hz0 hz1 hz2 hv
  obtain ⟨W1, hW1⟩ : ∃ W1, W1 = ((w.alloc (.cells #[.slice none 0 0, .slice none 0 0, .int .i64 0] 27)).alloc (.cells #[.int .i64 (l.length : Int)] 3)).alloc (.cells #[.slice (some ⟨w.heap.size + 1, 0, none⟩) 1 1, .slice none 0 0, .int .i64 0] 27) := ⟨_, rfl⟩
  have HSW1 := Lib.hid (show w.heap.size + 1 + 1 < W1.heap.size by rw [hW1]; simp)
  have HR0 := Lib.hid (show NRel w l.length W1.heap.size 0 (.slice none 0 0) [] [] W1 by
    refine ⟨World.ownsRow_nil _ _ _ _, Quad.nil _ _, ?_, ?_, ?_, ?_⟩
    · rw [hW1]; exact ((At3.new w _ _ _ _).below (below_new _ _)).below (below_new _ _)
    · rw [hW1]; have := At3.new ((w.alloc (.cells #[.slice none 0 0, .slice none 0 0, .int .i64 0] 27)).alloc (.cells #[.int .i64 (l.length : Int)] 3)) (.slice (some ⟨w.heap.size + 1, 0, none⟩) 1 1) (.slice none 0 0) (.int .i64 0) 27; simpa using this
    · rw [hW1]
      have h1 := World.ownsRow_lit (base := w.heap.size + 1) (e := 3) (size := 1) (w.alloc (.cells #[.slice none 0 0, .slice none 0 0, .int .i64 0] 27)) #[.int .i64 (l.length : Int)] 1 (by simp) (by unfold maxLen; omega) rfl
      rw [World.size_alloc] at h1
      have h2 := Slc.owned h1
      have h3 := h2.ltw
      exact (h3.below (below_new _ _)).keep (Kept.refl _ _) (fun b _ h => by have := h.1; have := h.2; simp at this; omega)
    · rw [hW1]; exact (((Below.refl _ _).alloc (Nat.le_refl _) _).alloc (by simp) _).alloc (by simp; omega) _)
  go_enter Tryz.func23, Tryz.ntmps23
  go_wp2_with fail
  rw [← hW1]
  clear hW1
  go_loopw [4] (fun i wr => ∃ (k : Nat) (V : Value) (L : List QI), k ≤ l.length ∧ i = .int .i64 k ∧ NRel w l.length W1.heap.size k V L ((l.take k).map numI) wr ∧ W1.heap.size ≤ wr.heap.size) (fun i _ => l.length - (intOf i).toNat)
  case atStart => exact ⟨0, _, _, by omega, rfl, by simpa using HR0.out, Nat.le_refl _⟩
  case round =>
    obtain ⟨k, V, L, hk, rfl, hR, hSW⟩ := hrel
    obtain ⟨ao, cap, rfl⟩ := owns_form hR.1
    have HR := Lib.hid hR
    have HSW := Lib.hid hSW
    obtain ⟨_, o0, o1, o2, of⟩ := hR.2.2.2.1
    have HBr := Lib.hid hR.2.2.2.2.2
    clear hR
    by_cases hlt : k < l.length
    · have hx := List.getElem?_eq_getElem hlt
      obtain ⟨x, hxx⟩ : ∃ x, x = l[k] := ⟨_, rfl⟩
      rw [← hxx] at hx
      clear hxx
      have HX := Lib.hid hx
      obtain ⟨b, off, cap1, x1, e, hx1, c0⟩ := Slc.at_map (Value.float .f64) (HV.out.below HBr.out) k hlt
      obtain rfl : x = x1 := Option.some.inj (hx.symm.trans hx1)
      cases e
      clear hx hx1
      have HB4 := Lib.hid (show Below wr.heap.size wr (wr.drew.alloc (.cells #[.int .i64 0, .float .f64 x, .int .i32 0, .slice none 0 0] 47)) from (Below.drewN' (Below.refl _ _) 1).alloc (Nat.le_refl _) _)
      have HO4 := Lib.hid (show (wr.drew.alloc (.cells #[.int .i64 0, .float .f64 x, .int .i32 0, .slice none 0 0] 47)).ownsRow W1.heap.size 47 4 (.slice ao k cap) k (flatI L) from owns_below2 HR.out.1 HB4.out)
      have HN4 := Lib.hid (show ∀ j u, (quadV (0, x, 0, .slice none 0 0))[j]? = some u → (wr.drew.alloc (.cells #[.int .i64 0, .float .f64 x, .int .i32 0, .slice none 0 0] 47)).cell? ((⟨wr.heap.size, 0, none⟩ : Addr).add j) = some u from cell_four_new wr.drew _ _ _ _ _)
      have HSZ := Lib.hid (show W1.heap.size ≤ (wr.drew.alloc (.cells #[.int .i64 0, .float .f64 x, .int .i32 0, .slice none 0 0] 47)).heap.size from Nat.le_trans HSW.out HB4.out.size)
      have HON := Lib.hid (show ∀ u ∈ quadV (0, x, 0, .slice none 0 0), u.oneCell' = true by intro u hu; simp [quadV] at hu; rcases hu with rfl | rfl | rfl | rfl <;> rfl)
      have HM1 : Hid (k + 1 ≤ maxLen) := Lib.hid (by unfold maxLen; omega)
      have HM2 : Hid ((k + 1) * 48 ≤ 140737488355328) := Lib.hid (by omega)
      have HAo := Lib.hid (HR.out.2.2.2.1.below HB4.out)
      go_wp2_with fail
      go_region_law ((refine step_append_blk rfl _ _ 25 rfl W1.heap.size 47 i0 _ 4 48 Tryz.underlying25 HI0.out.1 HI0.out.2.1 HI0.out.2.2.1 HI0.out.2.2.2 rfl (by decide) _ k (flatI L) rfl HO4.out ⟨wr.heap.size, 0, none⟩ 1 1 (quadV (0, x, 0, .slice none 0 0)) rfl rfl HN4.out HON.out HM1.out HM2.out HSZ.out ?_; intro v' w5 hown hgrow hblk; obtain ⟨ao', cap', rfl⟩ := owns_form hown; have HS5 := Lib.hid (HR.out.step HSW1.out HB4.out hown hgrow hblk); have HAo5 := Lib.hid (HAo.out.grown hgrow (by intro e; have := (HO4.out.lt _ e.symm).1; have := HSW1.out; omega)); have HZ5 := Lib.hid (show W1.heap.size ≤ w5.heap.size from Nat.le_trans HSZ.out hgrow.size); have r1 := HAo5.out.2.2.1; have r3 := HAo5.out.2.2.2.2 1; clear hown hgrow hblk))
      all_goals
        go_wp2
        go_roundw
        case rel =>
          refine ⟨k + 1, .slice ao' (k + 1) cap', L ++ [(0, x, 0, .slice none 0 0)], by omega, by go_num, ?_, by simpa using HZ5.out⟩
          rw [ptake HX.out, List.map_append, List.map_cons, List.map_nil]
          exact HS5.out
        case measure => simp [intOf]; omega
    · have hkl : k = l.length := by omega
      have HTK := Lib.hid (show (l.take k).map numI = l.map numI by rw [hkl, List.take_length])
      rw [HTK.out] at HR
      have HFIN := Lib.hid (plain_done (s := [(l.length : Int)]) (f := 0) (r := w.heap.size) (ok := fun b => w.heap.size + 1 ≤ b) (HR.out.2.2.2.2.1.keep (Kept.refl _ _) (fun b _ (h : b = w.heap.size + 1) => by omega)) ((Its.of_own (ok := fun b => W1.heap.size ≤ b) HR.out.1 (HR.out.2.1.keep (Kept.refl _ _) (fun b _ h => h.1))).wide (fun b _ h => by
        have := HSW1.out
        rcases h with h | h <;> omega)) (by omega))
      have HBF := Lib.hid (show ∀ x y z, Below w.heap.size w (((wr.setCell ⟨w.heap.size, 0, none⟩ x).setCell ⟨w.heap.size, 1, none⟩ y).setCell ⟨w.heap.size, 2, none⟩ z) from fun x y z => ((HBr.out.setCell (Nat.le_refl _) _).setCell (Nat.le_refl _) _).setCell (Nat.le_refl _) _)
      obtain ⟨_, r0, r1, r2, rf⟩ := HR.out.2.2.1
      have rf0 := rf 0
      have rf1 := rf 1
      have rf2 := rf 2
      clear hkl rf
      go_wp2_with fail
      refine bodyPost_ret (v := .agg #[.slice (some ⟨w.heap.size + 1, 0, none⟩) 1 1, .slice ao k cap, .int .i64 0]) (by simp [results, Tryz.results23, go_sem, r0, r1, r2]) rfl ⟨_, rfl, ?_, HBF.out _ _ _⟩
      exact (HFIN.out _ _ _).wide (fun b _ h => by omega)
end Go.Proofs.YtohjomhiibkobaaGreatDoor

/- Plain arrays of one element, and of numbers: what is wrong with them, their arrays, tidied. -/
namespace Go.Proofs.YtohjomhiibkobaaGreatDoor
open Go.RowKit Fl
set_option linter.unusedVariables false
set_option maxRecDepth 100000

def charP (c : Int) : PA := .mk [] [(1, 0, c, [])] 1
def boxP (p : PA) : PA := .mk [] [(2, 0, 0, [p])] 2
theorem prodR_one : prodR [] 1048576 = ((1 : Int), 0) := by decide
theorem num_chk {d : Nat} {x : Nat} : chk (d + 1) (numP x) = 0 ↔ Fnt x := by
  rw [chk_well]
  constructor
  · intro h; exact (h.2.2.2 (0, x, 0, []) (by simp [numP, PA.l])).2.2 rfl
  · intro h
    refine ⟨by simp [numP, PA.f], by simp [numP, PA.f], prodR_one, fun y hy => ?_⟩
    obtain rfl : y = (0, x, 0, []) := by simpa [numP, PA.l] using hy
    exact ⟨rfl, fun e => absurd e (by simp), fun _ => h⟩
theorem num_arr {d : Nat} {x : Nat} : arrP (d + 1) (numP x) = ([], (VV.floats [ze x]).sq) := arrP_zero rfl
theorem nums_prod (l : List Nat) (hl : l.length ≤ 1048576) : prodR [(l.length : Int)] 1048576 = ((l.length : Int), 0) := by
  have hn : anyN [(l.length : Int)] = false := by simp [anyN]
  by_cases h0 : l.length = 0
  · rw [prodR_fit (by simp) hn (by simp [nzp, h0])]
    simp [anyZ, h0]
  · have hz : nzp [(l.length : Int)] = l.length := by simp [nzp]; intro h; exact absurd (by simp [h]) h0
    have ha : anyZ [(l.length : Int)] = false := by simp [anyZ]; intro h; exact h0 (by simp [h])
    rw [prodR_fit (by simp) hn (by rw [hz]; omega), if_neg (by rw [ha, if_neg (by simp), hz]; omega), ha, if_neg (by simp), hz]
theorem nums_chk {d : Nat} {l : List Nat} (hl : l.length ≤ 1048576) : chk (d + 1) (numsP l) = 0 ↔ ∀ x ∈ l, Fnt x := by
  rw [chk_well]
  constructor
  · intro h x hx; exact (h.2.2.2 (numI x) (by simpa [numsP, PA.l] using ⟨x, hx, rfl⟩)).2.2 rfl
  · intro h
    refine ⟨by simp [numsP, PA.f], by simp [numsP, PA.f], ?_, fun y hy => ?_⟩
    · have := nums_prod l hl
      simpa [numsP, PA.l, PA.s] using this
    obtain ⟨x, hx, rfl⟩ : ∃ x, x ∈ l ∧ numI x = y := by simpa [numsP, PA.l] using hy
    exact ⟨rfl, fun e => absurd e (by simp [numI]), fun _ => h x hx⟩
theorem nums_arr {d : Nat} {l : List Nat} : arrP (d + 1) (numsP l) = ([(l.length : Int)], (VV.floats (l.map ze)).sq) := by
  rw [arrP_zero rfl]
  simp [numsP, PA.s, PA.l, numsV, numI, Function.comp_def]
theorem char_chk {d : Nat} {c : Int} : chk (d + 1) (charP c) = 0 := by
  rw [chk_well]
  refine ⟨by simp [charP, PA.f], by simp [charP, PA.f], prodR_one, fun y hy => ?_⟩
  obtain rfl : y = (1, 0, c, []) := by simpa [charP, PA.l] using hy
  exact ⟨rfl, fun e => absurd e (by simp), fun e => absurd e (by simp)⟩
theorem char_arr {d : Nat} {c : Int} : arrP (d + 1) (charP c) = ([], .chars [c]) := arrP_one rfl
theorem char_tidy {d : Nat} {c : Int} : tidyP (d + 1) (charP c) = charP c := by simp [tidyP, charP, PA.s, PA.l, PA.f, tidyI]
theorem box_chk {d : Nat} {p : PA} (h : chk d p = 0) : chk (d + 1) (boxP p) = 0 := by
  rw [chk_well]
  refine ⟨by simp [boxP, PA.f], by simp [boxP, PA.f], prodR_one, fun y hy => ?_⟩
  obtain rfl : y = (2, 0, 0, [p]) := by simpa [boxP, PA.l] using hy
  exact ⟨rfl, fun _ => ⟨p, rfl, h⟩, fun e => absurd e (by simp)⟩
theorem box_arr {d : Nat} {p : PA} : arrP (d + 1) (boxP p) = ([], .boxes [arrP d p]) := arrP_two rfl
theorem box_tidy {d : Nat} {p : PA} : tidyP (d + 1) (boxP p) = boxP (tidyP d p) := by simp [tidyP, boxP, PA.s, PA.l, PA.f, tidyI, hd]
/-- A list of one item that a call makes. -/
theorem Its.one {w : World} {ok : Nat → Prop} (x : PI) {bx : Value} (hb : IsB w ok bx x.2.2.2) : Its (w.alloc (.cells #[.int .i64 x.1, .float .f64 x.2.1, .int .i32 x.2.2.1, bx] 47)) (fun b => ok b ∨ w.heap.size ≤ b) (.slice (some ⟨w.heap.size, 0, none⟩) 1 1) [x] := by
  have hc := cell_four_new w (.int .i64 x.1) (.float .f64 x.2.1) (.int .i32 x.2.2.1) bx 47
  refine ⟨_, _, fun _ => bx, rfl, Nat.le_refl _, by unfold maxLen; omega, fun i y hy => ?_, fun i y hy => ?_⟩
  · cases i with
    | succ i => simp at hy
    | zero =>
      obtain rfl : x = y := by simpa using hy
      exact ⟨_, _, rfl, Or.inr (Nat.le_refl _), hc 0 _ rfl, hc 1 _ rfl, hc 2 _ rfl, hc 3 _ rfl⟩
  · cases i with
    | succ i => simp at hy
    | zero =>
      obtain rfl : x = y := by simpa using hy
      exact (hb.grow (below_new _ _)).wide (fun b _ h => Or.inl h)
end Go.Proofs.YtohjomhiibkobaaGreatDoor

/- An argument that is a plain array, opened. -/
namespace Go.Proofs.YtohjomhiibkobaaGreatDoor
open Go.RowKit Go.ChangeShapes Go.WideShapes
set_option linter.unusedVariables false
set_option maxRecDepth 100000

section
variable {H : Type} {enc : TypeId × Value → H} {w : World} {base : Nat} {spare : Nat → Bool} {held : Bool}

/-- A slice of elements of c cells. -/
theorem cells_slice {P : Program} {t e : TypeId} {fuel c : Nat} {cs : List Value} {x : DataW H × List MemPlace} (ht : P.underlying t = some (.slice e)) (hc : P.cellsOf e = c) (hpos : 0 < c)
    (h : DataW.trod enc P w base spare held fuel t cs = some x) :
    ∃ ao len cap n, n < fuel ∧ cs = [.slice ao len cap] ∧ len ≤ cap ∧ cap ≤ maxLen ∧
      ∀ i, i < len → ∃ b off cs' y, ao = some ⟨b, off, none⟩ ∧ cs'.length = c ∧ (∀ j, j < c → w.cell? ⟨b, off + i * c + j, none⟩ = cs'[j]?) ∧ DataW.trod enc P w base spare held n e cs' = some y := by
  cases fuel with
  | zero => simp [DataW.trod] at h
  | succ m =>
    rcases DataW.trod_slice ht h with ⟨h0, _⟩ | ⟨a, len, cap, elems, rest, n, hn, rfl, rfl, hb, hl, hm, hlen, hel, hsp, hns⟩
    · exact ⟨none, 0, 0, m, by omega, h0, Nat.le_refl _, by unfold maxLen; omega, fun i hi => by omega⟩
    have each : ∀ i, i < len → ∃ cs' y, cs'.length = c ∧ (∀ j, j < c → w.cell? ((a.add (i * c)).add j) = cs'[j]?) ∧ DataW.trod enc P w base spare held n e cs' = some y := by
      intro i hi
      have h1 := hel i hi
      rw [hc] at h1
      have hlt : i < elems.length := by omega
      rw [List.getElem?_eq_getElem hlt] at h1
      obtain ⟨cs', hcs, hy'⟩ := Option.bind_eq_some_iff.1 h1
      obtain ⟨_, hcl, hat⟩ := World.cells?_some hcs
      exact ⟨cs', _, hcl, hat, hy'⟩
    refine ⟨some a, len, cap, n, by omega, rfl, hl, hm, fun i hi => ?_⟩
    obtain ⟨b, off, spot⟩ := a
    have hspot : spot = none := by
      obtain ⟨cs', y, hcl, hat, _⟩ := each 0 (by omega)
      have h0 := hat 0 hpos
      rw [List.getElem?_eq_getElem (by omega)] at h0
      simpa [Addr.add] using World.cell?_spot h0
    subst hspot
    obtain ⟨cs', y, hcl, hat, hy⟩ := each i hi
    refine ⟨b, off, cs', y, rfl, hcl, fun j hj => ?_, hy⟩
    have := hat j hj
    simpa [Go.WideShapes.add_plain, Nat.add_assoc] using this

theorem cint_of {t : TypeId} {k : IntKind} {fuel : Nat} {cs : List Value} {P : Program} {y : DataW H × List MemPlace} (ht : P.underlying t = some (.int k)) (h : DataW.trod enc P w base spare held fuel t cs = some y) : ∃ z, cs = [.int k z] := by
  obtain ⟨u, rfl, z, rfl, _⟩ := elem_int ht _ _ _ h
  exact ⟨z, rfl⟩
theorem cfloat_of {t : TypeId} {k : FloatKind} {fuel : Nat} {cs : List Value} {P : Program} {y : DataW H × List MemPlace} (ht : P.underlying t = some (.float k)) (h : DataW.trod enc P w base spare held fuel t cs = some y) : ∃ z, cs = [.float k z] ∧ (Lit.float k z).wf = true := by
  obtain ⟨u, rfl, z, rfl, hz⟩ := elem_float ht _ _ _ h
  exact ⟨z, rfl, hz⟩
theorem ints_of {t e : TypeId} {fuel : Nat} {cs : List Value} {P : Program} {y : DataW H × List MemPlace} (ht : P.underlying t = some (.slice e)) (hc : P.cellsOf e = 1) (he : P.underlying e = some (.int .i64)) (h : DataW.trod enc P w base spare held fuel t cs = some y) :
    ∃ v l, cs = [v] ∧ Slc w (fun _ => True) v (l : List Int).length (ints l) := by
  obtain ⟨v, xs, rfl, hr, hq, hl⟩ := open_row ht hc (fun u => ∃ z, u = .int .i64 z ∧ (Lit.int .i64 z).wf = true) (elem_int he) h
  obtain ⟨zs, rfl, _⟩ := list_of (Value.int .i64) (fun z => (Lit.int .i64 z).wf = true) xs hq
  refine ⟨v, zs, rfl, ?_⟩
  have := hr.slc
  simpa [ints] using this

theorem listAll {α : Type} (n : Nat) (q : Nat → α → Prop) (h : ∀ i, i < n → ∃ x, q i x) : ∃ l : List α, l.length = n ∧ ∀ i x, l[i]? = some x → q i x := by
  induction n with
  | zero => exact ⟨[], rfl, fun i x h => by simp at h⟩
  | succ n ih =>
    obtain ⟨l, hl, hq⟩ := ih (fun i hi => h i (by omega))
    obtain ⟨x, hx⟩ := h n (by omega)
    refine ⟨l ++ [x], by simp [hl], fun i y hy => ?_⟩
    by_cases hi : i < l.length
    · rw [List.getElem?_append_left hi] at hy; exact hq i y hy
    · obtain ⟨h1, _⟩ := List.getElem?_eq_some_iff.1 hy
      have : i = n := by simp at h1; omega
      subst this
      rw [List.getElem?_append_right (by omega), hl] at hy
      simp at hy
      exact hy ▸ hx

theorem und_plain : ∃ f0 f1 f2 : Field, Tryz.prog.underlying 27 = some (.struct #[f0, f1, f2]) ∧ f0.type = 24 ∧ f1.type = 25 ∧ f2.type = 3 ∧ f0.offset = 0 ∧ f1.offset = 1 ∧ f2.offset = 2 := ⟨_, _, _, Tryz.underlying27, rfl, rfl, rfl, rfl, rfl, rfl⟩
theorem und_item : ∃ f0 f1 f2 f3 : Field, Tryz.prog.underlying 47 = some (.struct #[f0, f1, f2, f3]) ∧ f0.type = 3 ∧ f1.type = 22 ∧ f2.type = 21 ∧ f3.type = 45 ∧ f0.offset = 0 ∧ f1.offset = 1 ∧ f2.offset = 2 ∧ f3.offset = 3 := ⟨_, _, _, _, Tryz.underlying47, rfl, rfl, rfl, rfl, rfl, rfl, rfl, rfl⟩
theorem co_plain : Tryz.prog.cellsOf 27 = 3 := by kernel_rfl
theorem co_item : Tryz.prog.cellsOf 47 = 4 := by kernel_rfl
theorem co_slInt : Tryz.prog.cellsOf 24 = 1 := by kernel_rfl
theorem co_slItem : Tryz.prog.cellsOf 25 = 1 := by kernel_rfl
theorem co_slPlain : Tryz.prog.cellsOf 45 = 1 := by kernel_rfl
theorem co_int : Tryz.prog.cellsOf 3 = 1 := by kernel_rfl
theorem co_f64 : Tryz.prog.cellsOf 22 = 1 := by kernel_rfl
theorem co_i32 : Tryz.prog.cellsOf 21 = 1 := by kernel_rfl

/-- Some depth for all of finitely many. -/
theorem lo_all {n : Nat} (q : Nat → Nat → Prop) (mono : ∀ i a b, a ≤ b → q i a → q i b) (h : ∀ i, i < n → ∃ d, q i d) : ∃ d, ∀ i, i < n → q i d := Go.Deep.fuel_lt mono h

theorem lt_of_wf {x : Nat} (h : (Lit.float .f64 x).wf = true) : x < 18446744073709551616 := by
  simpa [Lit.wf] using h
theorem plain_of (fuel : Nat) : ∀ (cs : List Value) (y : DataW H × List MemPlace), DataW.trod enc Tryz.prog w base spare held fuel 27 cs = some y →
    ∃ a b c p d, cs = [a, b, c] ∧ IsP w (fun _ => True) (.agg #[a, b, c]) p ∧ lo d p := by
  induction fuel using Nat.strongRecOn with
  | ind fuel ih =>
    intro cs y h
    obtain ⟨f0, f1, f2, hu, t0, t1, t2, o0, o1, o2⟩ := und_plain
    obtain ⟨xs, n, rfl, _, hl, hxl, hf⟩ := DataW.trod_struct hu h
    rw [co_plain] at hl
    match cs, hl with
    | [a, b, c], _ =>
      have g0 := hf 0 f0 rfl
      have g1 := hf 1 f1 rfl
      have g2 := hf 2 f2 rfl
      rw [t0, o0, co_slInt] at g0
      rw [t1, o1, co_slItem] at g1
      rw [t2, o2, co_int] at g2
      simp only [List.drop, List.take] at g0 g1 g2
      match xs, hxl with
      | [y0, y1, y2], _ =>
        simp only [List.getElem?_cons_zero, List.getElem?_cons_succ] at g0 g1 g2
        obtain ⟨v, s, e0, hs⟩ := ints_of Tryz.underlying24 co_int Tryz.underlying3 g0
        obtain rfl : a = v := by simpa using e0
        obtain ⟨z, e2⟩ := cint_of Tryz.underlying3 g2
        cases e2
        obtain ⟨ao, len, cap, n1, hn1, e1, hl1, hl2, hitem⟩ := cells_slice Tryz.underlying25 co_item (by omega) g1
        cases e1
        -- each item
        have one : ∀ i, i < len → ∃ x : PI × (Value × Nat), (∃ b off, ao = some ⟨b, off, none⟩ ∧ w.cell? ⟨b, off + i * 4, none⟩ = some (.int .i64 x.1.1) ∧ w.cell? ⟨b, off + i * 4 + 1, none⟩ = some (.float .f64 x.1.2.1) ∧
            w.cell? ⟨b, off + i * 4 + 2, none⟩ = some (.int .i32 x.1.2.2.1) ∧ w.cell? ⟨b, off + i * 4 + 3, none⟩ = some x.2.1) ∧ IsB w (fun _ => True) x.2.1 x.1.2.2.2 ∧ x.1.2.1 < 18446744073709551616 ∧ ∀ q ∈ x.1.2.2.2, lo x.2.2 q := by
          intro i hi
          obtain ⟨b, off, cs', y', hao, hcl, hcells, htr⟩ := hitem i hi
          obtain ⟨k0, k1, k2, k3, hu', u0, u1, u2, u3, p0, p1, p2, p3⟩ := und_item
          obtain ⟨xs', n', rfl, _, _, hxl', hf'⟩ := DataW.trod_struct hu' htr
          match cs', hcl with
          | [c0, c1, c2, c3], _ =>
            have q0 := hf' 0 k0 rfl
            have q1 := hf' 1 k1 rfl
            have q2 := hf' 2 k2 rfl
            have q3 := hf' 3 k3 rfl
            rw [u0, p0, co_int] at q0
            rw [u1, p1, co_f64] at q1
            rw [u2, p2, co_i32] at q2
            rw [u3, p3, co_slPlain] at q3
            simp only [List.drop, List.take] at q0 q1 q2 q3
            match xs', hxl' with
            | [z0, z1, z2, z3], _ =>
              simp only [List.getElem?_cons_zero, List.getElem?_cons_succ] at q0 q1 q2 q3
              obtain ⟨kd, e0⟩ := cint_of Tryz.underlying3 q0
              cases e0
              obtain ⟨nm, e1, hnm⟩ := cfloat_of Tryz.underlying22 q1
              cases e1
              obtain ⟨ch, e2⟩ := cint_of Tryz.underlying21 q2
              cases e2
              obtain ⟨bo, blen, bcap, n3, hn3, e3, hb1, hb2, hbox⟩ := cells_slice Tryz.underlying45 co_plain (by omega) q3
              cases e3
              have each : ∀ k, k < blen → ∃ x : PA × (Value × Value × Value) × Nat, (∃ b off, bo = some ⟨b, off, none⟩ ∧ w.cell? ⟨b, off + k * 3, none⟩ = some x.2.1.1 ∧ w.cell? ⟨b, off + k * 3 + 1, none⟩ = some x.2.1.2.1 ∧ w.cell? ⟨b, off + k * 3 + 2, none⟩ = some x.2.1.2.2) ∧
                  IsP w (fun _ => True) (.agg #[x.2.1.1, x.2.1.2.1, x.2.1.2.2]) x.1 ∧ lo x.2.2 x.1 := by
                intro k hk
                obtain ⟨b', off', cs2, y2, hbo, hcl2, hcells2, htr2⟩ := hbox k hk
                obtain ⟨a', b2, c', p, d, rfl, hp, hd⟩ := ih n3 (by omega) cs2 y2 htr2
                exact ⟨(p, (a', b2, c'), d), ⟨b', off', hbo, by simpa using hcells2 0 (by omega), by simpa using hcells2 1 (by omega), by simpa using hcells2 2 (by omega)⟩, hp, hd⟩
              obtain ⟨L, hL, hq⟩ := listAll blen _ each
              obtain ⟨D, hD⟩ := lo_all (n := blen) (fun k d => ∀ x, L[k]? = some x → lo d x.1) (fun i a b hab h x hx => lo_mono (h x hx) hab) (fun k hk => ⟨((L[k]?).map (fun x => x.2.2)).getD 0, fun x hx => by rw [hx]; exact (hq k x hx).2.2⟩)
              refine ⟨((kd, nm, ch, L.map (·.1)), (.slice bo blen bcap, D)), ⟨b, off, hao, by simpa using hcells 0 (by omega), by simpa using hcells 1 (by omega), by simpa using hcells 2 (by omega), by simpa using hcells 3 (by omega)⟩, ?_, lt_of_wf hnm, ?_⟩
              · refine ⟨bo, bcap, fun k => ((L[k]?).map (fun x => x.2.1.1)).getD undef, fun k => ((L[k]?).map (fun x => x.2.1.2.1)).getD undef, fun k => ((L[k]?).map (fun x => x.2.1.2.2)).getD undef, by simp [hL], by simpa [hL] using hb1, hb2, fun k hk => ?_, fun k p hp => ?_⟩
                · have hk' : k < L.length := by simpa using hk
                  obtain ⟨⟨b', off', e, c0, c1, c2⟩, _⟩ := hq k _ (List.getElem?_eq_getElem hk')
                  exact ⟨b', off', e, trivial, by simp only [List.getElem?_eq_getElem hk']; exact c0, by simp only [List.getElem?_eq_getElem hk']; exact c1, by simp only [List.getElem?_eq_getElem hk']; exact c2⟩
                · simp only [List.getElem?_map, Option.map_eq_some_iff] at hp
                  obtain ⟨x, hx, rfl⟩ := hp
                  simp only [hx]
                  exact (hq k x hx).2.1
              · intro q hqm
                obtain ⟨x, hx, rfl⟩ := List.mem_map.1 hqm
                obtain ⟨k, hk⟩ := List.mem_iff_getElem?.1 hx
                exact hD k (by rw [← hL]; exact (List.getElem?_eq_some_iff.1 hk).1) x hk
        obtain ⟨L, hL, hq⟩ := listAll len _ one
        obtain ⟨D, hD⟩ := lo_all (n := len) (fun k d => ∀ x, L[k]? = some x → ∀ q ∈ x.1.2.2.2, lo d q) (fun i a b hab h x hx q hq => lo_mono (h x hx q hq) hab) (fun k hk => ⟨((L[k]?).map (fun x => x.2.2)).getD 0, fun x hx => by rw [hx]; exact (hq k x hx).2.2.2⟩)
        refine ⟨_, _, _, .mk s (L.map (·.1)) z, D + 1, rfl, ?_, ?_⟩
        · have : IsP w (fun _ => True) (.agg #[a, .slice ao (L.map (·.1)).length cap, .int .i64 z]) (.mk s (L.map (·.1)) z) := by
            refine IsP.of hs ⟨ao, cap, fun k => ((L[k]?).map (fun x => x.2.1)).getD undef, rfl, by simpa [hL] using hl1, hl2, fun i x hx => ?_, fun i x hx => ?_⟩
            · simp only [List.getElem?_map, Option.map_eq_some_iff] at hx
              obtain ⟨x, hx, rfl⟩ := hx
              obtain ⟨⟨b', off', e, c0, c1, c2, c3⟩, _⟩ := hq i x hx
              exact ⟨b', off', e, trivial, c0, c1, c2, by simp only [hx]; exact c3⟩
            · simp only [List.getElem?_map, Option.map_eq_some_iff] at hx
              obtain ⟨x, hx, rfl⟩ := hx
              simp only [hx]
              exact (hq i x hx).2.1
          simpa [hL] using this
        · intro x hx
          obtain ⟨y, hy, rfl⟩ := List.mem_map.1 (show _ ∈ L.map (·.1) from hx)
          obtain ⟨k, hk⟩ := List.mem_iff_getElem?.1 hy
          exact ⟨(hq k y hk).2.2.1, hD k (by rw [← hL]; exact (List.getElem?_eq_some_iff.1 hk).1) y hk⟩
end
/-- An argument that is a plain array. -/
theorem open_plain {H : Type} {enc : TypeId × Value → H} {w : World} {base : Nat} {spare : Nat → Bool} {held : Bool} {r : Reach} {b0 : Nat} {v : Value} {d : DataW H} {p : List MemPlace}
    (hv : Value.okWide Tryz.prog w r b0 27 v) (h : DataW.Trod enc Tryz.prog w base spare held 27 v d p) : ∃ P n, IsP w (fun _ => True) v P ∧ lo n P := by
  obtain ⟨f0, f1, f2, hu, _⟩ := und_plain
  obtain ⟨cs, rfl, hsz⟩ := okWide_struct hu hv
  obtain ⟨fuel, hf⟩ := h
  obtain ⟨a, b, c, P, n, e, hp, hn⟩ := plain_of fuel _ _ hf
  obtain ⟨l⟩ := cs
  have : l = [a, b, c] := e
  subst this
  exact ⟨P, n, hp, hn⟩
end Go.Proofs.YtohjomhiibkobaaGreatDoor

/- Package value's law: ValueAlone. -/
namespace Go.Proofs.YtohjomhiibkobaaGreatDoor
open Go.RowKit Fl
set_option linter.unusedVariables false
set_option maxRecDepth 100000

set_option maxHeartbeats 8000000 in
theorem valueAlone_yes (x : Nat) (hxw : x < 18446744073709551616) (c : Int) (v : Value) (l : List Nat) (p : PA) (u : Value) (n : Nat) (w : World) (hv : Slc w (fun _ => True) v l.length (f64s l)) (hf : ∀ y ∈ l, y < 18446744073709551616) (hl : lo n p) (hp : IsP w (fun _ => True) u p) (hT : TabAt w) (hfx : Fnt x) :
    Calls Tryz.prog 3 #[.float .f64 x, .int .i32 c, v, u] w (BoolIs true w) := by
  have HP := Lib.hid hp
  have HVV := Lib.hid hv
  obtain ⟨so, sc, io, ic, rfl, hs, hit⟩ := hp.opened
  obtain ⟨vo, vc, rfl, hvc, hvm, _⟩ := hv.opened
  have HL := Lib.hid hl
  have HLX := Lib.hid (And.intro hxw hf)
  have HFX := Lib.hid hfx
  obtain ⟨W1, hW1⟩ : ∃ W1, W1 = w.alloc (.cells #[.slice so p.s.length sc, .slice io p.l.length ic, .int .i64 p.f] 27) := ⟨_, rfl⟩
  have HA := Lib.hid (show At3 W1 w.heap.size (.slice so p.s.length sc) (.slice io p.l.length ic) (.int .i64 p.f) by rw [hW1]; exact At3.new w _ _ _ _)
  have HB := Lib.hid (show Below w.heap.size w W1 by rw [hW1]; exact below_new _ _)
  have HI := Lib.hid (show IsP W1 (fun b => b < w.heap.size) _ p from (HP.out.wide (fun b h _ => h)).grow HB.out)
  have HV := Lib.hid (show Slc W1 (fun b => b < w.heap.size) _ l.length (f64s l) from (HVV.out.keep (Kept.refl _ _) (fun b h _ => h)).below HB.out)
  have HT := Lib.hid (show TabAt W1 from fun j hj => keep_below HB.out _ _ (hT j hj))
  obtain ⟨cc, hc⟩ : ∃ cc, cc = chk 40 p := ⟨_, rfl⟩
  have HC := Lib.hid hc
  obtain ⟨dp, hd⟩ : ∃ dp, dp = depP 40 p := ⟨_, rfl⟩
  have HDP := Lib.hid hd
  have HFW := Lib.hid hW1.symm
  clear hs hit hp hl hv hT hW1 hc hd hxw hf hfx
  by_cases hlong : 500 < l.length
  · go_enter Tryz.func3, Tryz.ntmps3
    go_wp2_with fail
    rw [HFW.out]
    refine (awake7_calls _ HT.out).mono ?_
    rintro e w1 ⟨rfl, hB⟩
    replace HB := Lib.hid (HB.out.trans (hB.mono HB.out.size))
    clear hB
    go_wp2_with fail
    go_ret
    exact BoolIs.mk rfl HB.out
  have HLM := Lib.hid (Nat.le_of_not_lt hlong)
  have hlg : ((500 : Int) < (l.length : Int)) = False := eq_false (by omega)
  go_enter Tryz.func3, Tryz.ntmps3
  go_wp2_with fail
  rw [HFW.out]
  refine (pcount_calls n _ p _ _ _ HL.out HI.out).mono ?_
  rintro e W11 ⟨cn, rfl, hB⟩
  replace HA := Lib.hid (HA.out.below hB)
  replace HB := Lib.hid (HB.out.trans (hB.mono HB.out.size))
  replace HI := Lib.hid (HI.out.grow hB)
  replace HV := Lib.hid (HV.out.below hB)
  replace HT := Lib.hid (fun j hj => keep_below hB _ _ (HT.out j hj))
  clear hB
  have cHA0 := HA.out.2.1
  have cHA1 := HA.out.2.2.1
  have cHA2 := HA.out.2.2.2.1
  by_cases hcn : 2000 < cn
  · go_wp2_with fail
    refine (awake7_calls _ HT.out).mono ?_
    rintro e W12 ⟨rfl, hB⟩
    clear cHA0 cHA1 cHA2
    replace HA := Lib.hid (HA.out.below hB)
    replace HB := Lib.hid (HB.out.trans (hB.mono HB.out.size))
    replace HI := Lib.hid (HI.out.grow hB)
    replace HV := Lib.hid (HV.out.below hB)
    replace HT := Lib.hid (fun j hj => keep_below hB _ _ (HT.out j hj))
    clear hB
    have cHA0 := HA.out.2.1
    have cHA1 := HA.out.2.2.1
    have cHA2 := HA.out.2.2.2.1
    go_wp2_with fail
    go_ret
    exact BoolIs.mk rfl HB.out
  go_wp2_with fail
  refine (vCheck_calls _ p _ n _ HL.out HI.out).mono ?_
  rintro e W12 ⟨rfl, hB⟩
  clear cHA0 cHA1 cHA2
  replace HA := Lib.hid (HA.out.below hB)
  replace HB := Lib.hid (HB.out.trans (hB.mono HB.out.size))
  replace HI := Lib.hid (HI.out.grow hB)
  replace HV := Lib.hid (HV.out.below hB)
  replace HT := Lib.hid (fun j hj => keep_below hB _ _ (HT.out j hj))
  rw [← HC.out]
  clear hB
  have cHA0 := HA.out.2.1
  have cHA1 := HA.out.2.2.1
  have cHA2 := HA.out.2.2.2.1
  by_cases hc0 : cc = 0
  rotate_left
  · have hce : (cc != 0) = true := by simpa using hc0
    clear hc0
    go_wp2_with fail
    refine (awake7_calls _ HT.out).mono ?_
    rintro e W13 ⟨rfl, hB⟩
    clear cHA0 cHA1 cHA2
    replace HA := Lib.hid (HA.out.below hB)
    replace HB := Lib.hid (HB.out.trans (hB.mono HB.out.size))
    replace HI := Lib.hid (HI.out.grow hB)
    replace HV := Lib.hid (HV.out.below hB)
    replace HT := Lib.hid (fun j hj => keep_below hB _ _ (HT.out j hj))
    clear hB
    have cHA0 := HA.out.2.1
    have cHA1 := HA.out.2.2.1
    have cHA2 := HA.out.2.2.2.1
    go_wp2_with fail
    go_ret
    exact BoolIs.mk rfl HB.out
  have hce : (cc != 0) = false := by simpa using hc0
  have HCP := Lib.hid (show chk 40 p = 0 by rw [← HC.out]; exact hc0)
  go_wp2_with fail
  refine (rdepth_calls 40 _ p _ _ (by omega) HCP.out HI.out).mono ?_
  rintro e W13 ⟨rfl, hB⟩
  clear cHA0 cHA1 cHA2
  replace HA := Lib.hid (HA.out.below hB)
  replace HB := Lib.hid (HB.out.trans (hB.mono HB.out.size))
  replace HI := Lib.hid (HI.out.grow hB)
  replace HV := Lib.hid (HV.out.below hB)
  replace HT := Lib.hid (fun j hj => keep_below hB _ _ (HT.out j hj))
  rw [← HDP.out]
  clear hB
  have cHA0 := HA.out.2.1
  have cHA1 := HA.out.2.2.1
  have cHA2 := HA.out.2.2.2.1
  by_cases hd0 : 30 < dp
  · go_wp2_with fail
    refine (awake7_calls _ HT.out).mono ?_
    rintro e W14 ⟨rfl, hB⟩
    clear cHA0 cHA1 cHA2
    replace HA := Lib.hid (HA.out.below hB)
    replace HB := Lib.hid (HB.out.trans (hB.mono HB.out.size))
    replace HI := Lib.hid (HI.out.grow hB)
    replace HV := Lib.hid (HV.out.below hB)
    replace HT := Lib.hid (fun j hj => keep_below hB _ _ (HT.out j hj))
    clear hB
    have cHA0 := HA.out.2.1
    have cHA1 := HA.out.2.2.1
    have cHA2 := HA.out.2.2.2.1
    go_wp2_with fail
    go_ret
    exact BoolIs.mk rfl HB.out
  go_wp2_with fail
  clear hce hc0 hcn hd0
  refine (valNum_yes x _ HFX.out HT.out).mono ?_
  rintro e W14 ⟨ua, rfl, hAR, hB⟩
  clear cHA0 cHA1 cHA2
  replace HA := Lib.hid (HA.out.below hB)
  replace HB := Lib.hid (HB.out.trans (hB.mono HB.out.size))
  replace HI := Lib.hid (HI.out.grow hB)
  replace HV := Lib.hid (HV.out.below hB)
  replace HT := Lib.hid (fun j hj => keep_below hB _ _ (HT.out j hj))
  have HAR := Lib.hid (show IsArr W14 (fun _ => True) (.slice none 0 0) ua (arrP 40 (numP x)) by rw [num_arr]; exact hAR.wide (fun _ _ _ => trivial))
  have hsa := hAR.2.store
  clear hAR
  clear hB
  have cHA0 := HA.out.2.1
  have cHA1 := HA.out.2.2.1
  have cHA2 := HA.out.2.2.2.1
  go_wp2_with fail
  obtain ⟨W15, hWn⟩ : ∃ xw9, W14.alloc (.cells #[.slice none 0 0, ua] 34) = xw9 := ⟨_, rfl⟩
  have hB : Below W14.heap.size W14 W15 := by rw [← hWn]; exact below_new _ _
  have hNB : At2 W15 W14.heap.size (.slice none 0 0) (ua) := by rw [← hWn]; exact At2.new _ _ _ _
  rw [hWn]
  clear hWn
  obtain ⟨ba, hnm⟩ : ∃ x, W14.heap.size = x := ⟨_, rfl⟩
  rw [hnm] at hNB ⊢
  clear cHA0 cHA1 cHA2
  replace HA := Lib.hid (HA.out.below hB)
  replace HB := Lib.hid (HB.out.trans (hB.mono HB.out.size))
  replace HI := Lib.hid (HI.out.grow hB)
  replace HV := Lib.hid (HV.out.below hB)
  replace HT := Lib.hid (fun j hj => keep_below hB _ _ (HT.out j hj))
  replace HAR := Lib.hid (HAR.out.grow hB)
  have HVA := Lib.hid hNB
  clear hNB hB hnm
  have cHA0 := HA.out.2.1
  have cHA1 := HA.out.2.2.1
  have cHA2 := HA.out.2.2.2.1
  have cHVA0 := HVA.out.2.1
  have cHVA1 := HVA.out.2.2.1
  refine (valChar_calls c _).mono ?_
  rintro e W16 ⟨so2, sc2, ub, rfl, hBR, hB⟩
  clear cHA0 cHA1 cHA2 cHVA0 cHVA1
  replace HA := Lib.hid (HA.out.below hB)
  replace HB := Lib.hid (HB.out.trans (hB.mono HB.out.size))
  replace HI := Lib.hid (HI.out.grow hB)
  replace HV := Lib.hid (HV.out.below hB)
  replace HT := Lib.hid (fun j hj => keep_below hB _ _ (HT.out j hj))
  replace HAR := Lib.hid (HAR.out.grow hB)
  replace HVA := Lib.hid (HVA.out.below hB)
  have HBR := Lib.hid (show IsArr W16 (fun _ => True) (.slice so2 0 sc2) ub (arrP 40 (charP c)) by rw [char_arr]; exact hBR.wide (fun _ _ _ => trivial))
  have hsb := hBR.2.store
  clear hBR
  clear hB
  obtain ⟨W17, hWn⟩ : ∃ xw9, W16.alloc (.cells #[.slice so2 0 sc2, ub] 34) = xw9 := ⟨_, rfl⟩
  have hB : Below W16.heap.size W16 W17 := by rw [← hWn]; exact below_new _ _
  have hNB : At2 W17 W16.heap.size (.slice so2 0 sc2) (ub) := by rw [← hWn]; exact At2.new _ _ _ _
  replace HA := Lib.hid (HA.out.below hB)
  replace HB := Lib.hid (HB.out.trans (hB.mono HB.out.size))
  replace HI := Lib.hid (HI.out.grow hB)
  replace HV := Lib.hid (HV.out.below hB)
  replace HT := Lib.hid (fun j hj => keep_below hB _ _ (HT.out j hj))
  replace HAR := Lib.hid (HAR.out.grow hB)
  replace HVA := Lib.hid (HVA.out.below hB)
  replace HBR := Lib.hid (HBR.out.grow hB)
  have HVB := Lib.hid hNB
  clear hNB hB
  have cHA0 := HA.out.2.1
  have cHA1 := HA.out.2.2.1
  have cHA2 := HA.out.2.2.2.1
  have cHVA0 := HVA.out.2.1
  have cHVA1 := HVA.out.2.2.1
  have cHVB0 := HVB.out.2.1
  have cHVB1 := HVB.out.2.2.1
  go_wp2_with fail
  clear hWn
  refine (lof_calls _ p _ n _ HL.out HI.out HT.out HCP.out).mono ?_
  rintro e W18 ⟨so3, sc3, uo, rfl, hOR, hB⟩
  clear cHA0 cHA1 cHA2 cHVA0 cHVA1 cHVB0 cHVB1
  replace HA := Lib.hid (HA.out.below hB)
  replace HB := Lib.hid (HB.out.trans (hB.mono HB.out.size))
  replace HI := Lib.hid (HI.out.grow hB)
  replace HV := Lib.hid (HV.out.below hB)
  replace HT := Lib.hid (fun j hj => keep_below hB _ _ (HT.out j hj))
  replace HAR := Lib.hid (HAR.out.grow hB)
  replace HVA := Lib.hid (HVA.out.below hB)
  replace HBR := Lib.hid (HBR.out.grow hB)
  replace HVB := Lib.hid (HVB.out.below hB)
  have HOR := Lib.hid (show IsArr W18 (fun _ => True) (.slice so3 (arrP 40 p).1.length sc3) uo (arrP 40 p) from hOR.wide (fun _ _ _ => trivial))
  have hso := hOR.2.store
  have HON := Lib.hid (show (arrP 40 p).1.length ≤ 1048576 by have := arrP_s HCP.out; rw [this.1]; omega)
  clear hOR
  clear hB
  have cHA0 := HA.out.2.1
  have cHA1 := HA.out.2.2.1
  have cHA2 := HA.out.2.2.2.1
  have cHVA0 := HVA.out.2.1
  have cHVA1 := HVA.out.2.2.1
  have cHVB0 := HVB.out.2.1
  have cHVB1 := HVB.out.2.2.1
  go_wp2_with fail
  refine (valBox_calls _ _ (arrP 40 p) _ HOR.out HON.out).mono ?_
  rintro e W19 ⟨ud, rfl, hDR, hB⟩
  clear cHA0 cHA1 cHA2 cHVA0 cHVA1 cHVB0 cHVB1
  replace HA := Lib.hid (HA.out.below hB)
  replace HB := Lib.hid (HB.out.trans (hB.mono HB.out.size))
  replace HI := Lib.hid (HI.out.grow hB)
  replace HV := Lib.hid (HV.out.below hB)
  replace HT := Lib.hid (fun j hj => keep_below hB _ _ (HT.out j hj))
  replace HAR := Lib.hid (HAR.out.grow hB)
  replace HVA := Lib.hid (HVA.out.below hB)
  replace HBR := Lib.hid (HBR.out.grow hB)
  replace HVB := Lib.hid (HVB.out.below hB)
  replace HOR := Lib.hid (HOR.out.grow hB)
  have HDR := Lib.hid (show IsArr W19 (fun _ => True) (.slice none 0 0) ud (arrP 41 (boxP p)) by rw [box_arr]; exact ⟨Slc.nil _ _, hDR.wide (fun _ _ _ => trivial)⟩)
  have hsd := hDR.store
  clear hDR
  clear hB
  obtain ⟨W20, hWn⟩ : ∃ xw9, W19.alloc (.cells #[.slice none 0 0, ud] 34) = xw9 := ⟨_, rfl⟩
  have hB : Below W19.heap.size W19 W20 := by rw [← hWn]; exact below_new _ _
  have hNB : At2 W20 W19.heap.size (.slice none 0 0) (ud) := by rw [← hWn]; exact At2.new _ _ _ _
  replace HA := Lib.hid (HA.out.below hB)
  replace HB := Lib.hid (HB.out.trans (hB.mono HB.out.size))
  replace HI := Lib.hid (HI.out.grow hB)
  replace HV := Lib.hid (HV.out.below hB)
  replace HT := Lib.hid (fun j hj => keep_below hB _ _ (HT.out j hj))
  replace HAR := Lib.hid (HAR.out.grow hB)
  replace HVA := Lib.hid (HVA.out.below hB)
  replace HBR := Lib.hid (HBR.out.grow hB)
  replace HVB := Lib.hid (HVB.out.below hB)
  replace HOR := Lib.hid (HOR.out.grow hB)
  replace HDR := Lib.hid (HDR.out.grow hB)
  have HVD := Lib.hid hNB
  clear hNB hB
  have cHA0 := HA.out.2.1
  have cHA1 := HA.out.2.2.1
  have cHA2 := HA.out.2.2.2.1
  have cHVA0 := HVA.out.2.1
  have cHVA1 := HVA.out.2.2.1
  have cHVB0 := HVB.out.2.1
  have cHVB1 := HVB.out.2.2.1
  have cHVD0 := HVD.out.2.1
  have cHVD1 := HVD.out.2.2.1
  go_wp2_with fail
  clear hWn
  refine (rNum_calls x _).mono ?_
  rintro e W21 ⟨uN, rfl, hNP, hB⟩
  clear cHA0 cHA1 cHA2 cHVA0 cHVA1 cHVB0 cHVB1 cHVD0 cHVD1
  replace HA := Lib.hid (HA.out.below hB)
  replace HB := Lib.hid (HB.out.trans (hB.mono HB.out.size))
  replace HI := Lib.hid (HI.out.grow hB)
  replace HV := Lib.hid (HV.out.below hB)
  replace HT := Lib.hid (fun j hj => keep_below hB _ _ (HT.out j hj))
  replace HAR := Lib.hid (HAR.out.grow hB)
  replace HVA := Lib.hid (HVA.out.below hB)
  replace HBR := Lib.hid (HBR.out.grow hB)
  replace HVB := Lib.hid (HVB.out.below hB)
  replace HOR := Lib.hid (HOR.out.grow hB)
  replace HDR := Lib.hid (HDR.out.grow hB)
  replace HVD := Lib.hid (HVD.out.below hB)
  obtain ⟨ns, nsc, ni, nic, rfl, _⟩ := hNP.opened
  have HNP := Lib.hid (hNP.wide (ok' := fun _ => True) (fun _ _ _ => trivial))
  clear hNP
  clear hB
  obtain ⟨W22, hWn⟩ : ∃ xw9, W21.alloc (.cells #[.slice ns (numP x).s.length nsc, .slice ni (numP x).l.length nic, .int .i64 (numP x).f] 27) = xw9 := ⟨_, rfl⟩
  have hB : Below W21.heap.size W21 W22 := by rw [← hWn]; exact below_new _ _
  have hNB : At3 W22 W21.heap.size (.slice ns (numP x).s.length nsc) (.slice ni (numP x).l.length nic) (.int .i64 (numP x).f) := by rw [← hWn]; exact At3.new _ _ _ _ _
  replace HA := Lib.hid (HA.out.below hB)
  replace HB := Lib.hid (HB.out.trans (hB.mono HB.out.size))
  replace HI := Lib.hid (HI.out.grow hB)
  replace HV := Lib.hid (HV.out.below hB)
  replace HT := Lib.hid (fun j hj => keep_below hB _ _ (HT.out j hj))
  replace HAR := Lib.hid (HAR.out.grow hB)
  replace HVA := Lib.hid (HVA.out.below hB)
  replace HBR := Lib.hid (HBR.out.grow hB)
  replace HVB := Lib.hid (HVB.out.below hB)
  replace HOR := Lib.hid (HOR.out.grow hB)
  replace HDR := Lib.hid (HDR.out.grow hB)
  replace HVD := Lib.hid (HVD.out.below hB)
  replace HNP := Lib.hid (HNP.out.grow hB)
  have HVN := Lib.hid hNB
  clear hNB hB
  have cHA0 := HA.out.2.1
  have cHA1 := HA.out.2.2.1
  have cHA2 := HA.out.2.2.2.1
  have cHVA0 := HVA.out.2.1
  have cHVA1 := HVA.out.2.2.1
  have cHVB0 := HVB.out.2.1
  have cHVB1 := HVB.out.2.2.1
  have cHVD0 := HVD.out.2.1
  have cHVD1 := HVD.out.2.2.1
  have cHVN0 := HVN.out.2.1
  have cHVN1 := HVN.out.2.2.1
  have cHVN2 := HVN.out.2.2.2.1
  go_wp2_with fail
  clear hWn
  have HLN := Lib.hid (show lo 1 (numP x) from fun y hy => by
    obtain rfl : y = (0, x, 0, []) := by simpa [numP, PA.l] using hy
    exact ⟨HLX.out.1, fun q hq => by simp at hq⟩)
  have HCN := Lib.hid (show chk 40 (numP x) = 0 from num_chk.2 HFX.out)
  have HGN := Lib.hid (arrP_good 40 _ HCN.out)
  have HPN := Lib.hid (plA_arrP 40 _ HCN.out)
  have HNN := Lib.hid (nice_tidy 40 _ HCN.out)
  obtain ⟨W23, hWD⟩ : ∃ xw9, W22.drew = xw9 := ⟨_, rfl⟩
  have hB : Below W22.heap.size W22 W23 := by rw [← hWD]; exact Below.drewN' (Below.refl _ _) 1
  clear cHA0 cHA1 cHA2 cHVA0 cHVA1 cHVB0 cHVB1 cHVD0 cHVD1 cHVN0 cHVN1 cHVN2
  replace HA := Lib.hid (HA.out.below hB)
  replace HB := Lib.hid (HB.out.trans (hB.mono HB.out.size))
  replace HI := Lib.hid (HI.out.grow hB)
  replace HV := Lib.hid (HV.out.below hB)
  replace HT := Lib.hid (fun j hj => keep_below hB _ _ (HT.out j hj))
  replace HAR := Lib.hid (HAR.out.grow hB)
  replace HVA := Lib.hid (HVA.out.below hB)
  replace HBR := Lib.hid (HBR.out.grow hB)
  replace HVB := Lib.hid (HVB.out.below hB)
  replace HOR := Lib.hid (HOR.out.grow hB)
  replace HDR := Lib.hid (HDR.out.grow hB)
  replace HVD := Lib.hid (HVD.out.below hB)
  replace HNP := Lib.hid (HNP.out.grow hB)
  replace HVN := Lib.hid (HVN.out.below hB)
  clear hB
  refine wp_region_held_drew (S := fun w' => w'.cell? ⟨w.heap.size, 0, none⟩ = some (.slice so p.s.length sc) ∧ w'.cell? ⟨w.heap.size, 1, none⟩ = some (.slice io p.l.length ic) ∧ w'.cell? ⟨w.heap.size, 2, none⟩ = some (.int .i64 p.f) ∧ w'.cell? ⟨ba, 0, none⟩ = some (.slice none 0 0) ∧ w'.cell? ⟨ba, 1, none⟩ = some (ua) ∧ w'.cell? ⟨W16.heap.size, 0, none⟩ = some (.slice so2 0 sc2) ∧ w'.cell? ⟨W16.heap.size, 1, none⟩ = some (ub) ∧ w'.cell? ⟨W19.heap.size, 0, none⟩ = some (.slice none 0 0) ∧ w'.cell? ⟨W19.heap.size, 1, none⟩ = some (ud) ∧ w'.cell? ⟨W21.heap.size, 0, none⟩ = some (.slice ns (numP x).s.length nsc) ∧ w'.cell? ⟨W21.heap.size, 1, none⟩ = some (.slice ni (numP x).l.length nic) ∧ w'.cell? ⟨W21.heap.size, 2, none⟩ = some (.int .i64 (numP x).f)) (by kernel_rfl) (by rw [hWD]; exact ⟨HA.out.2.1, HA.out.2.2.1, HA.out.2.2.2.1, HVA.out.2.1, HVA.out.2.2.1, HVB.out.2.1, HVB.out.2.2.1, HVD.out.2.1, HVD.out.2.2.1, HVN.out.2.1, HVN.out.2.2.1, HVN.out.2.2.2.1⟩) (fun hHeld => ?_)
  rw [hWD] at hHeld ⊢
  clear hWD
  refine wpAnyH_take (i := 0) (v := ?_) rfl (by kernel_rfl) (by kernel_rfl) (by kernel_rfl) (fun _ _ _ h => h) (Or.inl ⟨by rfl, ?_⟩) (by assumption) ?_
  rotate_left
  · (intro w hSw; (try dsimp only at hSw); go_simp; try with_reducible rfl)
  simp only [Act.put, List.getElem_toArray, List.getElem_cons_zero, List.setIfInBounds_toArray, List.set_cons_zero, List.set_cons_succ]
  refine wpAnyH_take (i := 1) (v := ?_) rfl (by kernel_rfl) (by kernel_rfl) (by kernel_rfl) (fun _ _ _ h => h) (Or.inl ⟨by rfl, ?_⟩) (by assumption) ?_
  rotate_left
  · (intro w hSw; (try dsimp only at hSw); go_simp; try with_reducible rfl)
  simp only [Act.put, List.getElem_toArray, List.getElem_cons_succ, List.getElem_cons_zero, List.setIfInBounds_toArray, List.set_cons_zero, List.set_cons_succ]
  refine wpAnyH_ready (rs := [2]) (by kernel_rfl) (by simp) ?_
  refine AllReadyH.cons (o := _) rfl (fun K hK => ?_) AllReadyH.nil
  clear hHeld
  go_simp
  refine (vCheck_calls _ (numP x) _ 1 _ HLN.out HNP.out).mono ?_
  rintro e W24 ⟨rfl, hB⟩
  replace HA := Lib.hid (HA.out.below hB)
  replace HB := Lib.hid (HB.out.trans (hB.mono HB.out.size))
  replace HI := Lib.hid (HI.out.grow hB)
  replace HV := Lib.hid (HV.out.below hB)
  replace HT := Lib.hid (fun j hj => keep_below hB _ _ (HT.out j hj))
  replace HAR := Lib.hid (HAR.out.grow hB)
  replace HVA := Lib.hid (HVA.out.below hB)
  replace HBR := Lib.hid (HBR.out.grow hB)
  replace HVB := Lib.hid (HVB.out.below hB)
  replace HOR := Lib.hid (HOR.out.grow hB)
  replace HDR := Lib.hid (HDR.out.grow hB)
  replace HVD := Lib.hid (HVD.out.below hB)
  replace HNP := Lib.hid (HNP.out.grow hB)
  replace HVN := Lib.hid (HVN.out.below hB)
  rw [HCN.out]
  clear hB
  try go_simp
  refine hK.out _ _ ?_ (fun hHeld => ?_)
  · exact ⟨HA.out.2.1, HA.out.2.2.1, HA.out.2.2.2.1, HVA.out.2.1, HVA.out.2.2.1, HVB.out.2.1, HVB.out.2.2.1, HVD.out.2.1, HVD.out.2.2.1, HVN.out.2.1, HVN.out.2.2.1, HVN.out.2.2.2.1⟩
  clear hK K
  refine wpAnyH_take (i := 3) (v := ?_) rfl (by kernel_rfl) (by kernel_rfl) (by kernel_rfl) (fun _ _ _ h => h) (Or.inl ⟨by rfl, ?_⟩) (by assumption) ?_
  rotate_left
  · (intro w hSw; (try dsimp only at hSw); go_simp; try with_reducible rfl)
  simp only [Act.put, List.getElem_toArray, List.getElem_cons_succ, List.getElem_cons_zero, List.setIfInBounds_toArray, List.set_cons_zero, List.set_cons_succ]
  refine wpAnyH_take (i := 4) (v := ?_) rfl (by kernel_rfl) (by kernel_rfl) (by kernel_rfl) (fun _ _ _ h => h) (Or.inl ⟨by rfl, ?_⟩) (by assumption) ?_
  rotate_left
  · (intro w hSw; (try dsimp only at hSw); go_simp; try with_reducible rfl)
  simp only [Act.put, List.getElem_toArray, List.getElem_cons_succ, List.getElem_cons_zero, List.setIfInBounds_toArray, List.set_cons_zero, List.set_cons_succ]
  refine wpAnyH_take (i := 5) (v := ?_) rfl (by kernel_rfl) (by kernel_rfl) (by kernel_rfl) (fun _ _ _ h => h) (Or.inl ⟨by rfl, ?_⟩) (by assumption) ?_
  rotate_left
  · (intro w hSw; (try dsimp only at hSw); go_simp; try with_reducible rfl)
  simp only [Act.put, List.getElem_toArray, List.getElem_cons_succ, List.getElem_cons_zero, List.setIfInBounds_toArray, List.set_cons_zero, List.set_cons_succ]
  refine wpAnyH_take (i := 6) (v := ?_) rfl (by kernel_rfl) (by kernel_rfl) (by kernel_rfl) (fun _ _ _ h => h) (Or.inl ⟨by rfl, ?_⟩) (by assumption) ?_
  rotate_left
  · (intro w hSw; (try dsimp only at hSw); go_simp; try with_reducible rfl)
  simp only [Act.put, List.getElem_toArray, List.getElem_cons_succ, List.getElem_cons_zero, List.setIfInBounds_toArray, List.set_cons_zero, List.set_cons_succ]
  refine wpAnyH_take (i := 7) (v := ?_) rfl (by kernel_rfl) (by kernel_rfl) (by kernel_rfl) (fun _ _ _ h => h) (Or.inl ⟨by rfl, ?_⟩) (by assumption) ?_
  rotate_left
  · (intro w hSw; (try dsimp only at hSw); go_simp; try with_reducible rfl)
  simp only [Act.put, List.getElem_toArray, List.getElem_cons_succ, List.getElem_cons_zero, List.setIfInBounds_toArray, List.set_cons_zero, List.set_cons_succ]
  refine wpAnyH_take (i := 8) (v := ?_) rfl (by kernel_rfl) (by kernel_rfl) (by kernel_rfl) (fun _ _ _ h => h) (Or.inl ⟨by rfl, ?_⟩) (by assumption) ?_
  rotate_left
  · (intro w hSw; (try dsimp only at hSw); go_simp; try with_reducible rfl)
  simp only [Act.put, List.getElem_toArray, List.getElem_cons_succ, List.getElem_cons_zero, List.setIfInBounds_toArray, List.set_cons_zero, List.set_cons_succ]
  refine wpAnyH_take (i := 10) (v := ?_) rfl (by kernel_rfl) (by kernel_rfl) (by kernel_rfl) (fun _ _ _ h => h) (Or.inl ⟨by rfl, ?_⟩) (by assumption) ?_
  rotate_left
  · (intro w hSw; (try dsimp only at hSw); go_simp; try with_reducible rfl)
  simp only [Act.put, List.getElem_toArray, List.getElem_cons_succ, List.getElem_cons_zero, List.setIfInBounds_toArray, List.set_cons_zero, List.set_cons_succ]
  refine wpAnyH_ready (rs := [9]) (by kernel_rfl) (by simp) ?_
  refine AllReadyH.cons (o := _) rfl (fun K hK => ?_) AllReadyH.nil
  clear hHeld
  go_simp
  refine (plain_calls_at 40 _ (arrP 40 (numP x)) _ _ _ (gA_dA HGN.out) HAR.out).mono ?_
  rintro e W25 ⟨up, rfl, hup, hB⟩
  replace HA := Lib.hid (HA.out.below hB)
  replace HB := Lib.hid (HB.out.trans (hB.mono HB.out.size))
  replace HI := Lib.hid (HI.out.grow hB)
  replace HV := Lib.hid (HV.out.below hB)
  replace HT := Lib.hid (fun j hj => keep_below hB _ _ (HT.out j hj))
  replace HAR := Lib.hid (HAR.out.grow hB)
  replace HVA := Lib.hid (HVA.out.below hB)
  replace HBR := Lib.hid (HBR.out.grow hB)
  replace HVB := Lib.hid (HVB.out.below hB)
  replace HOR := Lib.hid (HOR.out.grow hB)
  replace HDR := Lib.hid (HDR.out.grow hB)
  replace HVD := Lib.hid (HVD.out.below hB)
  replace HNP := Lib.hid (HNP.out.grow hB)
  replace HVN := Lib.hid (HVN.out.below hB)
  rw [HPN.out] at hup
  have HUP := Lib.hid hup
  obtain ⟨uso, usc, uio, uic, rfl, _⟩ := hup.opened
  clear hup
  clear hB
  try go_simp
  refine hK.out _ _ ?_ (fun hHeld => ?_)
  · exact ⟨HA.out.2.1, HA.out.2.2.1, HA.out.2.2.2.1, HVA.out.2.1, HVA.out.2.2.1, HVB.out.2.1, HVB.out.2.2.1, HVD.out.2.1, HVD.out.2.2.1, HVN.out.2.1, HVN.out.2.2.1, HVN.out.2.2.2.1⟩
  clear hK K
  refine wpAnyH_ready (rs := [11]) (by kernel_rfl) (by simp) ?_
  refine AllReadyH.cons (o := _) rfl (fun K hK => ?_) AllReadyH.nil
  clear hHeld
  go_simp
  refine (ptidy_calls 40 _ (numP x) _ _ HCN.out HNP.out).mono ?_
  rintro e W26 ⟨ut, rfl, hut, hB⟩
  replace HA := Lib.hid (HA.out.below hB)
  replace HB := Lib.hid (HB.out.trans (hB.mono HB.out.size))
  replace HI := Lib.hid (HI.out.grow hB)
  replace HV := Lib.hid (HV.out.below hB)
  replace HT := Lib.hid (fun j hj => keep_below hB _ _ (HT.out j hj))
  replace HAR := Lib.hid (HAR.out.grow hB)
  replace HVA := Lib.hid (HVA.out.below hB)
  replace HBR := Lib.hid (HBR.out.grow hB)
  replace HVB := Lib.hid (HVB.out.below hB)
  replace HOR := Lib.hid (HOR.out.grow hB)
  replace HDR := Lib.hid (HDR.out.grow hB)
  replace HVD := Lib.hid (HVD.out.below hB)
  replace HNP := Lib.hid (HNP.out.grow hB)
  replace HVN := Lib.hid (HVN.out.below hB)
  replace HUP := Lib.hid (HUP.out.grow hB)
  have HUT := Lib.hid hut
  obtain ⟨tso, tsc, tio, tic, rfl, _⟩ := hut.opened
  clear hut
  clear hB
  try go_simp
  refine hK.out _ _ ?_ (fun hHeld => ?_)
  · exact ⟨HA.out.2.1, HA.out.2.2.1, HA.out.2.2.2.1, HVA.out.2.1, HVA.out.2.2.1, HVB.out.2.1, HVB.out.2.2.1, HVD.out.2.1, HVD.out.2.2.1, HVN.out.2.1, HVN.out.2.2.1, HVN.out.2.2.2.1⟩
  clear hK K
  refine wpAnyH_ready (rs := [12]) (by kernel_rfl) (by simp) ?_
  refine AllReadyH.cons (o := _) rfl (fun K hK => ?_) AllReadyH.nil
  clear hHeld
  go_simp
  refine (psame_calls 40 _ _ (tidyP 40 (numP x)) (tidyP 40 (numP x)) _ _ 40 _ HNN.out HNN.out HUP.out HUT.out).mono ?_
  rintro e W27 ⟨rfl, hB⟩
  replace HA := Lib.hid (HA.out.below hB)
  replace HB := Lib.hid (HB.out.trans (hB.mono HB.out.size))
  replace HI := Lib.hid (HI.out.grow hB)
  replace HV := Lib.hid (HV.out.below hB)
  replace HT := Lib.hid (fun j hj => keep_below hB _ _ (HT.out j hj))
  replace HAR := Lib.hid (HAR.out.grow hB)
  replace HVA := Lib.hid (HVA.out.below hB)
  replace HBR := Lib.hid (HBR.out.grow hB)
  replace HVB := Lib.hid (HVB.out.below hB)
  replace HOR := Lib.hid (HOR.out.grow hB)
  replace HDR := Lib.hid (HDR.out.grow hB)
  replace HVD := Lib.hid (HVD.out.below hB)
  replace HNP := Lib.hid (HNP.out.grow hB)
  replace HVN := Lib.hid (HVN.out.below hB)
  replace HUP := Lib.hid (HUP.out.grow hB)
  replace HUT := Lib.hid (HUT.out.grow hB)
  rw [pq_yes rfl]
  clear hB
  try go_simp
  refine hK.out _ _ ?_ (fun hHeld => ?_)
  · exact ⟨HA.out.2.1, HA.out.2.2.1, HA.out.2.2.2.1, HVA.out.2.1, HVA.out.2.2.1, HVB.out.2.1, HVB.out.2.2.1, HVD.out.2.1, HVD.out.2.2.1, HVN.out.2.1, HVN.out.2.2.1, HVN.out.2.2.2.1⟩
  clear hK K
  refine wpAnyH_take (i := 13) (v := ?_) rfl (by kernel_rfl) (by kernel_rfl) (by kernel_rfl) (fun _ _ _ h => h) (Or.inl ⟨by rfl, ?_⟩) (by assumption) ?_
  rotate_left
  · (intro w hSw; (try dsimp only at hSw); go_simp; try with_reducible rfl)
  simp only [Act.put, List.getElem_toArray, List.getElem_cons_succ, List.getElem_cons_zero, List.setIfInBounds_toArray, List.set_cons_zero, List.set_cons_succ]
  refine wpAnyH_take (i := 14) (v := ?_) rfl (by kernel_rfl) (by kernel_rfl) (by kernel_rfl) (fun _ _ _ h => h) (Or.inl ⟨by rfl, ?_⟩) (by assumption) ?_
  rotate_left
  · (intro w hSw; (try dsimp only at hSw); go_simp; try with_reducible rfl)
  simp only [Act.put, List.getElem_toArray, List.getElem_cons_succ, List.getElem_cons_zero, List.setIfInBounds_toArray, List.set_cons_zero, List.set_cons_succ]
  refine wpAnyH_take (i := 15) (v := ?_) rfl (by kernel_rfl) (by kernel_rfl) (by kernel_rfl) (fun _ _ _ h => h) (Or.inl ⟨by rfl, ?_⟩) (by assumption) ?_
  rotate_left
  · (intro w hSw; (try dsimp only at hSw); go_simp; try with_reducible rfl)
  simp only [Act.put, List.getElem_toArray, List.getElem_cons_succ, List.getElem_cons_zero, List.setIfInBounds_toArray, List.set_cons_zero, List.set_cons_succ]
  refine wpAnyH_take (i := 16) (v := ?_) rfl (by kernel_rfl) (by kernel_rfl) (by kernel_rfl) (fun _ _ _ h => h) (Or.inl ⟨by rfl, ?_⟩) (by assumption) ?_
  rotate_left
  · (intro w hSw; (try dsimp only at hSw); go_simp; try with_reducible rfl)
  simp only [Act.put, List.getElem_toArray, List.getElem_cons_succ, List.getElem_cons_zero, List.setIfInBounds_toArray, List.set_cons_zero, List.set_cons_succ]
  refine wpAnyH_take (i := 17) (v := ?_) rfl (by kernel_rfl) (by kernel_rfl) (by kernel_rfl) (fun _ _ _ h => h) (Or.inl ⟨by rfl, ?_⟩) (by assumption) ?_
  rotate_left
  · (intro w hSw; (try dsimp only at hSw); go_simp; try with_reducible rfl)
  simp only [Act.put, List.getElem_toArray, List.getElem_cons_succ, List.getElem_cons_zero, List.setIfInBounds_toArray, List.set_cons_zero, List.set_cons_succ]
  refine wpAnyH_take (i := 18) (v := ?_) rfl (by kernel_rfl) (by kernel_rfl) (by kernel_rfl) (fun _ _ _ h => h) (Or.inl ⟨by rfl, ?_⟩) (by assumption) ?_
  rotate_left
  · (intro w hSw; (try dsimp only at hSw); go_simp; try with_reducible rfl)
  simp only [Act.put, List.getElem_toArray, List.getElem_cons_succ, List.getElem_cons_zero, List.setIfInBounds_toArray, List.set_cons_zero, List.set_cons_succ]
  refine wpAnyH_take (i := 19) (v := ?_) rfl (by kernel_rfl) (by kernel_rfl) (by kernel_rfl) (fun _ _ _ h => h) (Or.inl ⟨by rfl, ?_⟩) (by assumption) ?_
  rotate_left
  · (intro w hSw; (try dsimp only at hSw); go_simp; try with_reducible rfl)
  simp only [Act.put, List.getElem_toArray, List.getElem_cons_succ, List.getElem_cons_zero, List.setIfInBounds_toArray, List.set_cons_zero, List.set_cons_succ]
  refine wpAnyH_take (i := 20) (v := undef) rfl (by kernel_rfl) (by kernel_rfl) (by kernel_rfl) (fun _ _ _ h => h) (Or.inr ⟨by rfl, rfl⟩) (by assumption) ?_
  simp only [Act.put, List.getElem_toArray, List.getElem_cons_succ, List.getElem_cons_zero, List.setIfInBounds_toArray, List.set_cons_zero, List.set_cons_succ]
  refine wpAnyH_take (i := 21) (v := undef) rfl (by kernel_rfl) (by kernel_rfl) (by kernel_rfl) (fun _ _ _ h => h) (Or.inr ⟨by rfl, rfl⟩) (by assumption) ?_
  simp only [Act.put, List.getElem_toArray, List.getElem_cons_succ, List.getElem_cons_zero, List.setIfInBounds_toArray, List.set_cons_zero, List.set_cons_succ]
  refine wpAnyH_take (i := 22) (v := undef) rfl (by kernel_rfl) (by kernel_rfl) (by kernel_rfl) (fun _ _ _ h => h) (Or.inr ⟨by rfl, rfl⟩) (by assumption) ?_
  simp only [Act.put, List.getElem_toArray, List.getElem_cons_succ, List.getElem_cons_zero, List.setIfInBounds_toArray, List.set_cons_zero, List.set_cons_succ]
  refine wpAnyH_take (i := 23) (v := undef) rfl (by kernel_rfl) (by kernel_rfl) (by kernel_rfl) (fun _ _ _ h => h) (Or.inr ⟨by rfl, rfl⟩) (by assumption) ?_
  simp only [Act.put, List.getElem_toArray, List.getElem_cons_succ, List.getElem_cons_zero, List.setIfInBounds_toArray, List.set_cons_zero, List.set_cons_succ]
  refine wpAnyH_take (i := 24) (v := ?_) rfl (by kernel_rfl) (by kernel_rfl) (by kernel_rfl) (fun _ _ _ h => h) (Or.inl ⟨by rfl, ?_⟩) (by assumption) ?_
  rotate_left
  · (intro w hSw; (try dsimp only at hSw); go_simp; try with_reducible rfl)
  simp only [Act.put, List.getElem_toArray, List.getElem_cons_succ, List.getElem_cons_zero, List.setIfInBounds_toArray, List.set_cons_zero, List.set_cons_succ]
  refine wpAnyH_take (i := 25) (v := ?_) rfl (by kernel_rfl) (by kernel_rfl) (by kernel_rfl) (fun _ _ _ h => h) (Or.inl ⟨by rfl, ?_⟩) (by assumption) ?_
  rotate_left
  · (intro w hSw; (try dsimp only at hSw); go_simp; try with_reducible rfl)
  simp only [Act.put, List.getElem_toArray, List.getElem_cons_succ, List.getElem_cons_zero, List.setIfInBounds_toArray, List.set_cons_zero, List.set_cons_succ]
  refine wpAnyH_done (by kernel_rfl) ?_ _
  clear hHeld
  clear HUP HUT
  have cHA0 := HA.out.2.1
  have cHA1 := HA.out.2.2.1
  have cHA2 := HA.out.2.2.2.1
  have cHVB0 := HVB.out.2.1
  have cHVB1 := HVB.out.2.2.1
  have cHVD0 := HVD.out.2.1
  have cHVD1 := HVD.out.2.2.1
  go_wp2_with fail
  have HGC := Lib.hid (arrP_good 40 (charP c) char_chk)
  have HPC := Lib.hid (show plA 40 (arrP 40 (charP c)) = charP c by rw [plA_arrP 40 _ char_chk, char_tidy])
  have HNC := Lib.hid (show nice 40 (charP c) by have := nice_tidy 40 (charP c) char_chk; rwa [char_tidy] at this)
  have HCB := Lib.hid (box_chk HCP.out)
  have HGB := Lib.hid (arrP_good 41 (boxP p) HCB.out)
  have HPB := Lib.hid (show plA 41 (arrP 41 (boxP p)) = boxP (tidyP 40 p) by rw [plA_arrP 41 _ HCB.out, box_tidy])
  have HNB := Lib.hid (show nice 41 (boxP (tidyP 40 p)) by have := nice_tidy 41 (boxP p) HCB.out; rwa [box_tidy] at this)
  obtain ⟨W28, hWD⟩ : ∃ xw9, W27.drew = xw9 := ⟨_, rfl⟩
  have hB : Below W27.heap.size W27 W28 := by rw [← hWD]; exact Below.drewN' (Below.refl _ _) 1
  clear cHA0 cHA1 cHA2 cHVB0 cHVB1 cHVD0 cHVD1
  replace HA := Lib.hid (HA.out.below hB)
  replace HB := Lib.hid (HB.out.trans (hB.mono HB.out.size))
  replace HI := Lib.hid (HI.out.grow hB)
  replace HV := Lib.hid (HV.out.below hB)
  replace HT := Lib.hid (fun j hj => keep_below hB _ _ (HT.out j hj))
  replace HBR := Lib.hid (HBR.out.grow hB)
  replace HVB := Lib.hid (HVB.out.below hB)
  replace HOR := Lib.hid (HOR.out.grow hB)
  replace HDR := Lib.hid (HDR.out.grow hB)
  replace HVD := Lib.hid (HVD.out.below hB)
  clear hB
  refine wp_region_held_drew (S := fun w' => w'.cell? ⟨w.heap.size, 0, none⟩ = some (.slice so p.s.length sc) ∧ w'.cell? ⟨w.heap.size, 1, none⟩ = some (.slice io p.l.length ic) ∧ w'.cell? ⟨w.heap.size, 2, none⟩ = some (.int .i64 p.f) ∧ w'.cell? ⟨W16.heap.size, 0, none⟩ = some (.slice so2 0 sc2) ∧ w'.cell? ⟨W16.heap.size, 1, none⟩ = some (ub) ∧ w'.cell? ⟨W19.heap.size, 0, none⟩ = some (.slice none 0 0) ∧ w'.cell? ⟨W19.heap.size, 1, none⟩ = some (ud)) (by kernel_rfl) (by rw [hWD]; exact ⟨HA.out.2.1, HA.out.2.2.1, HA.out.2.2.2.1, HVB.out.2.1, HVB.out.2.2.1, HVD.out.2.1, HVD.out.2.2.1⟩) (fun hHeld => ?_)
  rw [hWD] at hHeld ⊢
  clear hWD
  refine wpAnyH_take (i := 0) (v := ?_) rfl (by kernel_rfl) (by kernel_rfl) (by kernel_rfl) (fun _ _ _ h => h) (Or.inl ⟨by rfl, ?_⟩) (by assumption) ?_
  rotate_left
  · (intro w hSw; (try dsimp only at hSw); go_simp; try with_reducible rfl)
  simp only [Act.put, List.getElem_toArray, List.getElem_cons_zero, List.setIfInBounds_toArray, List.set_cons_zero, List.set_cons_succ]
  refine wpAnyH_take (i := 2) (v := ?_) rfl (by kernel_rfl) (by kernel_rfl) (by kernel_rfl) (fun _ _ _ h => h) (Or.inl ⟨by rfl, ?_⟩) (by assumption) ?_
  rotate_left
  · (intro w hSw; (try dsimp only at hSw); go_simp; try with_reducible rfl)
  simp only [Act.put, List.getElem_toArray, List.getElem_cons_succ, List.getElem_cons_zero, List.setIfInBounds_toArray, List.set_cons_zero, List.set_cons_succ]
  refine wpAnyH_take (i := 3) (v := ?_) rfl (by kernel_rfl) (by kernel_rfl) (by kernel_rfl) (fun _ _ _ h => h) (Or.inl ⟨by rfl, ?_⟩) (by assumption) ?_
  rotate_left
  · (intro w hSw; (try dsimp only at hSw); go_simp; try with_reducible rfl)
  simp only [Act.put, List.getElem_toArray, List.getElem_cons_succ, List.getElem_cons_zero, List.setIfInBounds_toArray, List.set_cons_zero, List.set_cons_succ]
  refine wpAnyH_ready (rs := [1, 4]) (by kernel_rfl) (by simp) ?_
  refine AllReadyH.cons (o := _) rfl (fun K hK => ?_) ?_
  · clear hHeld
    go_simp
    refine (plain_calls_at 40 _ (arrP 40 (charP c)) _ _ _ (gA_dA HGC.out) HBR.out).mono ?_
    rintro e W29 ⟨up, rfl, hup, hB⟩
    replace HA := Lib.hid (HA.out.below hB)
    replace HB := Lib.hid (HB.out.trans (hB.mono HB.out.size))
    replace HI := Lib.hid (HI.out.grow hB)
    replace HV := Lib.hid (HV.out.below hB)
    replace HT := Lib.hid (fun j hj => keep_below hB _ _ (HT.out j hj))
    replace HBR := Lib.hid (HBR.out.grow hB)
    replace HVB := Lib.hid (HVB.out.below hB)
    replace HOR := Lib.hid (HOR.out.grow hB)
    replace HDR := Lib.hid (HDR.out.grow hB)
    replace HVD := Lib.hid (HVD.out.below hB)
    rw [HPC.out] at hup
    have HUP := Lib.hid hup
    obtain ⟨uso, usc, uio, uic, rfl, _⟩ := hup.opened
    clear hup
    clear hB
    refine hK.out _ _ ?_ (fun hHeld => ?_)
    · exact ⟨HA.out.2.1, HA.out.2.2.1, HA.out.2.2.2.1, HVB.out.2.1, HVB.out.2.2.1, HVD.out.2.1, HVD.out.2.2.1⟩
    clear hK K
    refine wpAnyH_ready (rs := [4]) (by kernel_rfl) (by simp) ?_
    refine AllReadyH.cons (o := _) rfl (fun K hK => ?_) ?_
    · clear hHeld
      go_simp
      obtain ⟨W30, hWn⟩ : ∃ xw9, W29.alloc (.cells #[.int .i64 1, .float .f64 0, .int .i32 c, .slice none 0 0] 47) = xw9 := ⟨_, rfl⟩
      have hB : Below W29.heap.size W29 W30 := by rw [← hWn]; exact below_new _ _
      have hNB : Its W30 (fun _ => True) (.slice (some ⟨W29.heap.size, 0, none⟩) 1 1) [(1, 0, c, [])] := by rw [← hWn]; exact (Its.one (ok := fun _ => True) ((1, 0, c, []) : PI) (IsB.nil _ _)).wide (fun _ _ _ => trivial)
      rw [hWn]
      clear hWn
      obtain ⟨b1, hnm⟩ : ∃ x, W29.heap.size = x := ⟨_, rfl⟩
      rw [hnm] at hNB ⊢
      replace HA := Lib.hid (HA.out.below hB)
      replace HB := Lib.hid (HB.out.trans (hB.mono HB.out.size))
      replace HI := Lib.hid (HI.out.grow hB)
      replace HV := Lib.hid (HV.out.below hB)
      replace HT := Lib.hid (fun j hj => keep_below hB _ _ (HT.out j hj))
      replace HBR := Lib.hid (HBR.out.grow hB)
      replace HVB := Lib.hid (HVB.out.below hB)
      replace HOR := Lib.hid (HOR.out.grow hB)
      replace HDR := Lib.hid (HDR.out.grow hB)
      replace HVD := Lib.hid (HVD.out.below hB)
      replace HUP := Lib.hid (HUP.out.grow hB)
      have HI1 := Lib.hid hNB
      clear hNB hB hnm
      refine hK.out _ _ ?_ (fun hHeld => ?_)
      · exact ⟨HA.out.2.1, HA.out.2.2.1, HA.out.2.2.2.1, HVB.out.2.1, HVB.out.2.2.1, HVD.out.2.1, HVD.out.2.2.1⟩
      clear hK K
      refine wpAnyH_take (i := 5) (v := ?_) rfl (by kernel_rfl) (by kernel_rfl) (by kernel_rfl) (fun _ _ _ h => h) (Or.inl ⟨by rfl, ?_⟩) (by assumption) ?_
      rotate_left
      · (intro w hSw; (try dsimp only at hSw); go_simp; try with_reducible rfl)
      simp only [Act.put, List.getElem_toArray, List.getElem_cons_succ, List.getElem_cons_zero, List.setIfInBounds_toArray, List.set_cons_zero, List.set_cons_succ]
      refine wpAnyH_ready (rs := [6]) (by kernel_rfl) (by simp) ?_
      refine AllReadyH.cons (o := _) rfl (fun K hK => ?_) ?_
      · clear hHeld
        go_simp
        refine (psame_calls 40 _ _ (charP c) (charP c) _ _ 40 _ HNC.out HNC.out HUP.out (IsP.of (Slc.nil _ _) HI1.out)).mono ?_
        rintro e W31 ⟨rfl, hB⟩
        replace HA := Lib.hid (HA.out.below hB)
        replace HB := Lib.hid (HB.out.trans (hB.mono HB.out.size))
        replace HI := Lib.hid (HI.out.grow hB)
        replace HV := Lib.hid (HV.out.below hB)
        replace HT := Lib.hid (fun j hj => keep_below hB _ _ (HT.out j hj))
        replace HBR := Lib.hid (HBR.out.grow hB)
        replace HVB := Lib.hid (HVB.out.below hB)
        replace HOR := Lib.hid (HOR.out.grow hB)
        replace HDR := Lib.hid (HDR.out.grow hB)
        replace HVD := Lib.hid (HVD.out.below hB)
        replace HUP := Lib.hid (HUP.out.grow hB)
        replace HI1 := Lib.hid (HI1.out.grow hB)
        rw [pq_yes rfl]
        clear HUP HI1
        clear hB
        refine hK.out _ _ ?_ (fun hHeld => ?_)
        · exact ⟨HA.out.2.1, HA.out.2.2.1, HA.out.2.2.2.1, HVB.out.2.1, HVB.out.2.2.1, HVD.out.2.1, HVD.out.2.2.1⟩
        clear hK K
        refine wpAnyH_take (i := 7) (v := ?_) rfl (by kernel_rfl) (by kernel_rfl) (by kernel_rfl) (fun _ _ _ h => h) (Or.inl ⟨by rfl, ?_⟩) (by assumption) ?_
        rotate_left
        · (intro w hSw; (try dsimp only at hSw); go_simp; try with_reducible rfl)
        simp only [Act.put, List.getElem_toArray, List.getElem_cons_succ, List.getElem_cons_zero, List.setIfInBounds_toArray, List.set_cons_zero, List.set_cons_succ]
        refine wpAnyH_take (i := 8) (v := ?_) rfl (by kernel_rfl) (by kernel_rfl) (by kernel_rfl) (fun _ _ _ h => h) (Or.inl ⟨by rfl, ?_⟩) (by assumption) ?_
        rotate_left
        · (intro w hSw; (try dsimp only at hSw); go_simp; try with_reducible rfl)
        simp only [Act.put, List.getElem_toArray, List.getElem_cons_succ, List.getElem_cons_zero, List.setIfInBounds_toArray, List.set_cons_zero, List.set_cons_succ]
        refine wpAnyH_take (i := 9) (v := ?_) rfl (by kernel_rfl) (by kernel_rfl) (by kernel_rfl) (fun _ _ _ h => h) (Or.inl ⟨by rfl, ?_⟩) (by assumption) ?_
        rotate_left
        · (intro w hSw; (try dsimp only at hSw); go_simp; try with_reducible rfl)
        simp only [Act.put, List.getElem_toArray, List.getElem_cons_succ, List.getElem_cons_zero, List.setIfInBounds_toArray, List.set_cons_zero, List.set_cons_succ]
        refine wpAnyH_take (i := 11) (v := ?_) rfl (by kernel_rfl) (by kernel_rfl) (by kernel_rfl) (fun _ _ _ h => h) (Or.inl ⟨by rfl, ?_⟩) (by assumption) ?_
        rotate_left
        · (intro w hSw; (try dsimp only at hSw); go_simp; try with_reducible rfl)
        simp only [Act.put, List.getElem_toArray, List.getElem_cons_succ, List.getElem_cons_zero, List.setIfInBounds_toArray, List.set_cons_zero, List.set_cons_succ]
        refine wpAnyH_ready (rs := [10]) (by kernel_rfl) (by simp) ?_
        refine AllReadyH.cons (o := _) rfl (fun K hK => ?_) ?_
        · clear hHeld
          go_simp
          refine (plain_calls_at 41 _ (arrP 41 (boxP p)) _ _ _ (gA_dA HGB.out) HDR.out).mono ?_
          rintro e W32 ⟨uq, rfl, huq, hB⟩
          replace HA := Lib.hid (HA.out.below hB)
          replace HB := Lib.hid (HB.out.trans (hB.mono HB.out.size))
          replace HI := Lib.hid (HI.out.grow hB)
          replace HV := Lib.hid (HV.out.below hB)
          replace HT := Lib.hid (fun j hj => keep_below hB _ _ (HT.out j hj))
          replace HBR := Lib.hid (HBR.out.grow hB)
          replace HVB := Lib.hid (HVB.out.below hB)
          replace HOR := Lib.hid (HOR.out.grow hB)
          replace HDR := Lib.hid (HDR.out.grow hB)
          replace HVD := Lib.hid (HVD.out.below hB)
          rw [HPB.out] at huq
          have HUQ := Lib.hid huq
          obtain ⟨qso, qsc, qio, qic, rfl, _⟩ := huq.opened
          clear huq
          clear hB
          refine hK.out _ _ ?_ (fun hHeld => ?_)
          · exact ⟨HA.out.2.1, HA.out.2.2.1, HA.out.2.2.2.1, HVB.out.2.1, HVB.out.2.2.1, HVD.out.2.1, HVD.out.2.2.1⟩
          clear hK K
          refine wpAnyH_ready (rs := [12]) (by kernel_rfl) (by simp) ?_
          refine AllReadyH.cons (o := _) rfl (fun K hK => ?_) ?_
          · clear hHeld
            go_simp
            refine (ptidy_calls 40 _ p _ _ HCP.out HI.out).mono ?_
            rintro e W33 ⟨ut, rfl, hut, hB⟩
            replace HA := Lib.hid (HA.out.below hB)
            replace HB := Lib.hid (HB.out.trans (hB.mono HB.out.size))
            replace HI := Lib.hid (HI.out.grow hB)
            replace HV := Lib.hid (HV.out.below hB)
            replace HT := Lib.hid (fun j hj => keep_below hB _ _ (HT.out j hj))
            replace HBR := Lib.hid (HBR.out.grow hB)
            replace HVB := Lib.hid (HVB.out.below hB)
            replace HOR := Lib.hid (HOR.out.grow hB)
            replace HDR := Lib.hid (HDR.out.grow hB)
            replace HVD := Lib.hid (HVD.out.below hB)
            replace HUQ := Lib.hid (HUQ.out.grow hB)
            have HUT := Lib.hid (hut.wide (ok' := fun _ => True) (fun _ _ _ => trivial))
            obtain ⟨tso, tsc, tio, tic, rfl, _⟩ := hut.opened
            clear hut
            clear hB
            refine hK.out _ _ ?_ (fun hHeld => ?_)
            · exact ⟨HA.out.2.1, HA.out.2.2.1, HA.out.2.2.2.1, HVB.out.2.1, HVB.out.2.2.1, HVD.out.2.1, HVD.out.2.2.1⟩
            clear hK K
            refine wpAnyH_ready (rs := [13]) (by kernel_rfl) (by simp) ?_
            refine AllReadyH.cons (o := _) rfl (fun K hK => ?_) ?_
            · clear hHeld
              go_simp
              obtain ⟨W34, hWn⟩ : ∃ xw9, W33.alloc (.cells #[.slice tso (tidyP 40 p).s.length tsc, .slice tio (tidyP 40 p).l.length tic, .int .i64 (tidyP 40 p).f] 27) = xw9 := ⟨_, rfl⟩
              have hB : Below W33.heap.size W33 W34 := by rw [← hWn]; exact below_new _ _
              have hNB : IsB W34 (fun _ => True) (.slice (some ⟨W33.heap.size, 0, none⟩) 1 1) [tidyP 40 p] := by rw [← hWn]; exact (IsB.one (ok := fun _ => True) HUT.out _).wide (fun _ _ _ => trivial)
              rw [hWn]
              clear hWn
              obtain ⟨b2, hnm⟩ : ∃ x, W33.heap.size = x := ⟨_, rfl⟩
              rw [hnm] at hNB ⊢
              replace HA := Lib.hid (HA.out.below hB)
              replace HB := Lib.hid (HB.out.trans (hB.mono HB.out.size))
              replace HI := Lib.hid (HI.out.grow hB)
              replace HV := Lib.hid (HV.out.below hB)
              replace HT := Lib.hid (fun j hj => keep_below hB _ _ (HT.out j hj))
              replace HBR := Lib.hid (HBR.out.grow hB)
              replace HVB := Lib.hid (HVB.out.below hB)
              replace HOR := Lib.hid (HOR.out.grow hB)
              replace HDR := Lib.hid (HDR.out.grow hB)
              replace HVD := Lib.hid (HVD.out.below hB)
              replace HUQ := Lib.hid (HUQ.out.grow hB)
              replace HUT := Lib.hid (HUT.out.grow hB)
              have HBX := Lib.hid hNB
              clear hNB hB hnm
              refine hK.out _ _ ?_ (fun hHeld => ?_)
              · exact ⟨HA.out.2.1, HA.out.2.2.1, HA.out.2.2.2.1, HVB.out.2.1, HVB.out.2.2.1, HVD.out.2.1, HVD.out.2.2.1⟩
              clear hK K
              refine wpAnyH_take (i := 14) (v := ?_) rfl (by kernel_rfl) (by kernel_rfl) (by kernel_rfl) (fun _ _ _ h => h) (Or.inl ⟨by rfl, ?_⟩) (by assumption) ?_
              rotate_left
              · (intro w hSw; (try dsimp only at hSw); go_simp; try with_reducible rfl)
              simp only [Act.put, List.getElem_toArray, List.getElem_cons_succ, List.getElem_cons_zero, List.setIfInBounds_toArray, List.set_cons_zero, List.set_cons_succ]
              refine wpAnyH_ready (rs := [15]) (by kernel_rfl) (by simp) ?_
              refine AllReadyH.cons (o := _) rfl (fun K hK => ?_) ?_
              · clear hHeld
                go_simp
                obtain ⟨W35, hWn⟩ : ∃ xw9, W34.alloc (.cells #[.int .i64 2, .float .f64 0, .int .i32 0, .slice (some ⟨b2, 0, none⟩) 1 1] 47) = xw9 := ⟨_, rfl⟩
                have hB : Below W34.heap.size W34 W35 := by rw [← hWn]; exact below_new _ _
                have hNB : Its W35 (fun _ => True) (.slice (some ⟨W34.heap.size, 0, none⟩) 1 1) [(2, 0, 0, [tidyP 40 p])] := by rw [← hWn]; exact (Its.one (ok := fun _ => True) ((2, 0, 0, [tidyP 40 p]) : PI) HBX.out).wide (fun _ _ _ => trivial)
                rw [hWn]
                clear hWn
                obtain ⟨b3, hnm⟩ : ∃ x, W34.heap.size = x := ⟨_, rfl⟩
                rw [hnm] at hNB ⊢
                replace HA := Lib.hid (HA.out.below hB)
                replace HB := Lib.hid (HB.out.trans (hB.mono HB.out.size))
                replace HI := Lib.hid (HI.out.grow hB)
                replace HV := Lib.hid (HV.out.below hB)
                replace HT := Lib.hid (fun j hj => keep_below hB _ _ (HT.out j hj))
                replace HBR := Lib.hid (HBR.out.grow hB)
                replace HVB := Lib.hid (HVB.out.below hB)
                replace HOR := Lib.hid (HOR.out.grow hB)
                replace HDR := Lib.hid (HDR.out.grow hB)
                replace HVD := Lib.hid (HVD.out.below hB)
                replace HUQ := Lib.hid (HUQ.out.grow hB)
                replace HUT := Lib.hid (HUT.out.grow hB)
                replace HBX := Lib.hid (HBX.out.grow hB)
                have HI2 := Lib.hid hNB
                clear hNB hB hnm
                refine hK.out _ _ ?_ (fun hHeld => ?_)
                · exact ⟨HA.out.2.1, HA.out.2.2.1, HA.out.2.2.2.1, HVB.out.2.1, HVB.out.2.2.1, HVD.out.2.1, HVD.out.2.2.1⟩
                clear hK K
                refine wpAnyH_take (i := 16) (v := ?_) rfl (by kernel_rfl) (by kernel_rfl) (by kernel_rfl) (fun _ _ _ h => h) (Or.inl ⟨by rfl, ?_⟩) (by assumption) ?_
                rotate_left
                · (intro w hSw; (try dsimp only at hSw); go_simp; try with_reducible rfl)
                simp only [Act.put, List.getElem_toArray, List.getElem_cons_succ, List.getElem_cons_zero, List.setIfInBounds_toArray, List.set_cons_zero, List.set_cons_succ]
                refine wpAnyH_ready (rs := [17]) (by kernel_rfl) (by simp) ?_
                refine AllReadyH.cons (o := _) rfl (fun K hK => ?_) ?_
                · clear hHeld
                  go_simp
                  refine (psame_calls 41 _ _ (boxP (tidyP 40 p)) (boxP (tidyP 40 p)) _ _ 41 _ HNB.out HNB.out HUQ.out (IsP.of (Slc.nil _ _) HI2.out)).mono ?_
                  rintro e W36 ⟨rfl, hB⟩
                  replace HA := Lib.hid (HA.out.below hB)
                  replace HB := Lib.hid (HB.out.trans (hB.mono HB.out.size))
                  replace HI := Lib.hid (HI.out.grow hB)
                  replace HV := Lib.hid (HV.out.below hB)
                  replace HT := Lib.hid (fun j hj => keep_below hB _ _ (HT.out j hj))
                  replace HBR := Lib.hid (HBR.out.grow hB)
                  replace HVB := Lib.hid (HVB.out.below hB)
                  replace HOR := Lib.hid (HOR.out.grow hB)
                  replace HDR := Lib.hid (HDR.out.grow hB)
                  replace HVD := Lib.hid (HVD.out.below hB)
                  replace HUQ := Lib.hid (HUQ.out.grow hB)
                  replace HUT := Lib.hid (HUT.out.grow hB)
                  replace HBX := Lib.hid (HBX.out.grow hB)
                  replace HI2 := Lib.hid (HI2.out.grow hB)
                  rw [pq_yes rfl]
                  clear hB
                  refine hK.out _ _ ?_ (fun hHeld => ?_)
                  · exact ⟨HA.out.2.1, HA.out.2.2.1, HA.out.2.2.2.1, HVB.out.2.1, HVB.out.2.2.1, HVD.out.2.1, HVD.out.2.2.1⟩
                  clear hK K
                  refine wpAnyH_take (i := 18) (v := ?_) rfl (by kernel_rfl) (by kernel_rfl) (by kernel_rfl) (fun _ _ _ h => h) (Or.inl ⟨by rfl, ?_⟩) (by assumption) ?_
                  rotate_left
                  · (intro w hSw; (try dsimp only at hSw); go_simp; try with_reducible rfl)
                  simp only [Act.put, List.getElem_toArray, List.getElem_cons_succ, List.getElem_cons_zero, List.setIfInBounds_toArray, List.set_cons_zero, List.set_cons_succ]
                  refine wpAnyH_take (i := 19) (v := ?_) rfl (by kernel_rfl) (by kernel_rfl) (by kernel_rfl) (fun _ _ _ h => h) (Or.inl ⟨by rfl, ?_⟩) (by assumption) ?_
                  rotate_left
                  · (intro w hSw; (try dsimp only at hSw); go_simp; try with_reducible rfl)
                  simp only [Act.put, List.getElem_toArray, List.getElem_cons_succ, List.getElem_cons_zero, List.setIfInBounds_toArray, List.set_cons_zero, List.set_cons_succ]
                  refine wpAnyH_done (by kernel_rfl) ?_ _
                  clear hHeld
                  have cHA0 := HA.out.2.1
                  have cHA1 := HA.out.2.2.1
                  have cHA2 := HA.out.2.2.2.1
                  go_wp2_with fail
                  by_cases hfl : ∀ y ∈ l, Fnt y
                  · have HFL := Lib.hid hfl
                    clear hfl
                    refine (vfloats_yes _ l _ HV.out (by have := HLM.out; omega) HFL.out).mono ?_
                    rintro e W37 ⟨uv, rfl, hUV, hB⟩
                    clear cHA0 cHA1 cHA2
                    replace HA := Lib.hid (HA.out.below hB)
                    replace HB := Lib.hid (HB.out.trans (hB.mono HB.out.size))
                    replace HV := Lib.hid (HV.out.below hB)
                    replace HT := Lib.hid (fun j hj => keep_below hB _ _ (HT.out j hj))
                    replace HOR := Lib.hid (HOR.out.grow hB)
                    have HUV := Lib.hid hUV
                    have hsv := hUV.store
                    clear hUV
                    clear hB
                    have cHA0 := HA.out.2.1
                    have cHA1 := HA.out.2.2.1
                    have cHA2 := HA.out.2.2.2.1
                    go_wp2_with fail
                    obtain ⟨W38, hWn⟩ : ∃ xw9, W37.alloc (.cells #[uv] 32) = xw9 := ⟨_, rfl⟩
                    have hB : Below W37.heap.size W37 W38 := by rw [← hWn]; exact below_new _ _
                    have hNB : At1 W38 W37.heap.size (uv) := by rw [← hWn]; exact At1.new _ _ _
                    rw [hWn]
                    clear hWn
                    obtain ⟨bv, hnm⟩ : ∃ x, W37.heap.size = x := ⟨_, rfl⟩
                    rw [hnm] at hNB ⊢
                    clear cHA0 cHA1 cHA2
                    replace HA := Lib.hid (HA.out.below hB)
                    replace HB := Lib.hid (HB.out.trans (hB.mono HB.out.size))
                    replace HV := Lib.hid (HV.out.below hB)
                    replace HT := Lib.hid (fun j hj => keep_below hB _ _ (HT.out j hj))
                    replace HOR := Lib.hid (HOR.out.grow hB)
                    replace HUV := Lib.hid (HUV.out.grow hB)
                    have HVW := Lib.hid hNB
                    clear hNB hB hnm
                    have cHA0 := HA.out.2.1
                    have cHA1 := HA.out.2.2.1
                    have cHA2 := HA.out.2.2.2.1
                    have cHVW0 := HVW.out.2.1
                    have HFK := Lib.hid (show (VV.floats (l.map ze)).ok by have := HLM.out; simp [VV.ok]; omega)
                    have HFM := Lib.hid (show (VV.floats (l.map ze)).nm by
                      intro y hy
                      simp only [List.mem_map] at hy
                      obtain ⟨z, hz, rfl⟩ := hy
                      exact ze_num (HFL.out z hz))
                    have HQC := Lib.hid (show chk 40 (numsP l) = 0 from (nums_chk (by have := HLM.out; omega)).2 HFL.out)
                    have HGQ := Lib.hid (arrP_good 40 _ HQC.out)
                    have HPQ := Lib.hid (plA_arrP 40 _ HQC.out)
                    have HNQ := Lib.hid (nice_tidy 40 _ HQC.out)
                    refine (valList_calls _ (.floats (l.map ze)) _ HUV.out HFK.out HFM.out HT.out).mono ?_
                    rintro e W39 ⟨so4, sc4, ua4, rfl, hLA, hB⟩
                    clear cHA0 cHA1 cHA2 cHVW0
                    replace HA := Lib.hid (HA.out.below hB)
                    replace HB := Lib.hid (HB.out.trans (hB.mono HB.out.size))
                    replace HV := Lib.hid (HV.out.below hB)
                    replace HT := Lib.hid (fun j hj => keep_below hB _ _ (HT.out j hj))
                    replace HOR := Lib.hid (HOR.out.grow hB)
                    replace HUV := Lib.hid (HUV.out.grow hB)
                    replace HVW := Lib.hid (HVW.out.below hB)
                    rw [show (VV.floats (l.map ze)).len = l.length from by simp [VV.len]] at hLA
                    have HLA := Lib.hid (show IsArr W39 (fun _ => True) (.slice so4 1 sc4) ua4 (arrP 40 (numsP l)) by rw [nums_arr]; exact ⟨hLA.1.keep (Kept.refl _ _) (fun _ _ _ => trivial), hLA.2.wide (fun _ _ _ => trivial)⟩)
                    clear hLA
                    clear hB
                    have cHA0 := HA.out.2.1
                    have cHA1 := HA.out.2.2.1
                    have cHA2 := HA.out.2.2.2.1
                    have cHVW0 := HVW.out.2.1
                    go_wp2_with fail
                    refine (plain_calls_at 40 _ (arrP 40 (numsP l)) _ _ _ (gA_dA HGQ.out) HLA.out).mono ?_
                    rintro e W40 ⟨up4, rfl, hup, hB⟩
                    clear cHA0 cHA1 cHA2 cHVW0
                    replace HA := Lib.hid (HA.out.below hB)
                    replace HB := Lib.hid (HB.out.trans (hB.mono HB.out.size))
                    replace HV := Lib.hid (HV.out.below hB)
                    replace HT := Lib.hid (fun j hj => keep_below hB _ _ (HT.out j hj))
                    replace HOR := Lib.hid (HOR.out.grow hB)
                    replace HUV := Lib.hid (HUV.out.grow hB)
                    replace HVW := Lib.hid (HVW.out.below hB)
                    replace HLA := Lib.hid (HLA.out.grow hB)
                    rw [HPQ.out] at hup
                    have HUP := Lib.hid hup
                    obtain ⟨p4, q4, r4, t4, rfl, _⟩ := hup.opened
                    clear hup
                    clear hB
                    have cHA0 := HA.out.2.1
                    have cHA1 := HA.out.2.2.1
                    have cHA2 := HA.out.2.2.2.1
                    have cHVW0 := HVW.out.2.1
                    go_wp2_with fail
                    refine (rNums_calls _ l _ HV.out (by have := HLM.out; omega)).mono ?_
                    rintro e W41 ⟨un4, rfl, hun, hB⟩
                    clear cHA0 cHA1 cHA2 cHVW0
                    replace HA := Lib.hid (HA.out.below hB)
                    replace HB := Lib.hid (HB.out.trans (hB.mono HB.out.size))
                    replace HV := Lib.hid (HV.out.below hB)
                    replace HT := Lib.hid (fun j hj => keep_below hB _ _ (HT.out j hj))
                    replace HOR := Lib.hid (HOR.out.grow hB)
                    replace HUV := Lib.hid (HUV.out.grow hB)
                    replace HVW := Lib.hid (HVW.out.below hB)
                    replace HLA := Lib.hid (HLA.out.grow hB)
                    replace HUP := Lib.hid (HUP.out.grow hB)
                    have HUN := Lib.hid hun
                    obtain ⟨p5, q5, r5, t5, rfl, _⟩ := hun.opened
                    clear hun
                    clear hB
                    have cHA0 := HA.out.2.1
                    have cHA1 := HA.out.2.2.1
                    have cHA2 := HA.out.2.2.2.1
                    have cHVW0 := HVW.out.2.1
                    go_wp2_with fail
                    refine (ptidy_calls 40 _ (numsP l) _ _ HQC.out HUN.out).mono ?_
                    rintro e W42 ⟨ut4, rfl, hut, hB⟩
                    clear cHA0 cHA1 cHA2 cHVW0
                    replace HA := Lib.hid (HA.out.below hB)
                    replace HB := Lib.hid (HB.out.trans (hB.mono HB.out.size))
                    replace HV := Lib.hid (HV.out.below hB)
                    replace HT := Lib.hid (fun j hj => keep_below hB _ _ (HT.out j hj))
                    replace HOR := Lib.hid (HOR.out.grow hB)
                    replace HUV := Lib.hid (HUV.out.grow hB)
                    replace HVW := Lib.hid (HVW.out.below hB)
                    replace HLA := Lib.hid (HLA.out.grow hB)
                    replace HUP := Lib.hid (HUP.out.grow hB)
                    replace HUN := Lib.hid (HUN.out.grow hB)
                    have HUT := Lib.hid hut
                    obtain ⟨p6, q6, r6, t6, rfl, _⟩ := hut.opened
                    clear hut
                    clear hB
                    have cHA0 := HA.out.2.1
                    have cHA1 := HA.out.2.2.1
                    have cHA2 := HA.out.2.2.2.1
                    have cHVW0 := HVW.out.2.1
                    go_wp2_with fail
                    refine (psame_calls 40 _ _ (tidyP 40 (numsP l)) (tidyP 40 (numsP l)) _ _ 40 _ HNQ.out HNQ.out HUP.out HUT.out).mono ?_
                    rintro e W43 ⟨rfl, hB⟩
                    clear cHA0 cHA1 cHA2 cHVW0
                    replace HA := Lib.hid (HA.out.below hB)
                    replace HB := Lib.hid (HB.out.trans (hB.mono HB.out.size))
                    replace HV := Lib.hid (HV.out.below hB)
                    replace HT := Lib.hid (fun j hj => keep_below hB _ _ (HT.out j hj))
                    replace HOR := Lib.hid (HOR.out.grow hB)
                    replace HUV := Lib.hid (HUV.out.grow hB)
                    replace HVW := Lib.hid (HVW.out.below hB)
                    replace HLA := Lib.hid (HLA.out.grow hB)
                    replace HUP := Lib.hid (HUP.out.grow hB)
                    replace HUN := Lib.hid (HUN.out.grow hB)
                    replace HUT := Lib.hid (HUT.out.grow hB)
                    rw [pq_yes rfl]
                    clear hB
                    have cHA0 := HA.out.2.1
                    have cHA1 := HA.out.2.2.1
                    have cHA2 := HA.out.2.2.2.1
                    have cHVW0 := HVW.out.2.1
                    go_wp2_with fail
                    refine (awake7_calls _ HT.out).mono ?_
                    rintro e W44 ⟨rfl, hB⟩
                    clear cHA0 cHA1 cHA2 cHVW0
                    replace HA := Lib.hid (HA.out.below hB)
                    replace HB := Lib.hid (HB.out.trans (hB.mono HB.out.size))
                    replace HV := Lib.hid (HV.out.below hB)
                    replace HT := Lib.hid (fun j hj => keep_below hB _ _ (HT.out j hj))
                    replace HOR := Lib.hid (HOR.out.grow hB)
                    replace HUV := Lib.hid (HUV.out.grow hB)
                    replace HVW := Lib.hid (HVW.out.below hB)
                    replace HLA := Lib.hid (HLA.out.grow hB)
                    replace HUP := Lib.hid (HUP.out.grow hB)
                    replace HUN := Lib.hid (HUN.out.grow hB)
                    replace HUT := Lib.hid (HUT.out.grow hB)
                    clear hB
                    have cHA0 := HA.out.2.1
                    have cHA1 := HA.out.2.2.1
                    have cHA2 := HA.out.2.2.2.1
                    have cHVW0 := HVW.out.2.1
                    go_wp2_with fail
                    go_ret
                    exact BoolIs.mk rfl HB.out
                  · have HFL := Lib.hid (show ∃ y ∈ l, ¬ Fnt y from Classical.byContradiction fun h => hfl fun y hy => Classical.byContradiction fun h2 => h ⟨y, hy, h2⟩)
                    clear hfl
                    refine (vfloats_no _ l _ HV.out (by have := HLM.out; omega) HLX.out.2 HFL.out).mono ?_
                    rintro e W37 ⟨uv, rfl, hUV, hB⟩
                    clear cHA0 cHA1 cHA2
                    replace HA := Lib.hid (HA.out.below hB)
                    replace HB := Lib.hid (HB.out.trans (hB.mono HB.out.size))
                    replace HV := Lib.hid (HV.out.below hB)
                    replace HT := Lib.hid (fun j hj => keep_below hB _ _ (HT.out j hj))
                    replace HOR := Lib.hid (HOR.out.grow hB)
                    have HUV := Lib.hid hUV
                    have hsv := hUV.store
                    clear hUV
                    clear hB
                    have cHA0 := HA.out.2.1
                    have cHA1 := HA.out.2.2.1
                    have cHA2 := HA.out.2.2.2.1
                    go_wp2_with fail
                    obtain ⟨W38, hWn⟩ : ∃ xw9, W37.alloc (.cells #[uv] 32) = xw9 := ⟨_, rfl⟩
                    have hB : Below W37.heap.size W37 W38 := by rw [← hWn]; exact below_new _ _
                    have hNB : At1 W38 W37.heap.size (uv) := by rw [← hWn]; exact At1.new _ _ _
                    rw [hWn]
                    clear hWn
                    obtain ⟨bv, hnm⟩ : ∃ x, W37.heap.size = x := ⟨_, rfl⟩
                    rw [hnm] at hNB ⊢
                    clear cHA0 cHA1 cHA2
                    replace HA := Lib.hid (HA.out.below hB)
                    replace HB := Lib.hid (HB.out.trans (hB.mono HB.out.size))
                    replace HV := Lib.hid (HV.out.below hB)
                    replace HT := Lib.hid (fun j hj => keep_below hB _ _ (HT.out j hj))
                    replace HOR := Lib.hid (HOR.out.grow hB)
                    have HVW := Lib.hid hNB
                    clear hNB hB hnm
                    have cHA0 := HA.out.2.1
                    have cHA1 := HA.out.2.2.1
                    have cHA2 := HA.out.2.2.2.1
                    have cHVW0 := HVW.out.2.1
                    refine (awake7_calls _ HT.out).mono ?_
                    rintro e W39 ⟨rfl, hB⟩
                    clear cHA0 cHA1 cHA2 cHVW0
                    replace HA := Lib.hid (HA.out.below hB)
                    replace HB := Lib.hid (HB.out.trans (hB.mono HB.out.size))
                    replace HV := Lib.hid (HV.out.below hB)
                    replace HT := Lib.hid (fun j hj => keep_below hB _ _ (HT.out j hj))
                    replace HOR := Lib.hid (HOR.out.grow hB)
                    replace HVW := Lib.hid (HVW.out.below hB)
                    clear hB
                    have cHA0 := HA.out.2.1
                    have cHA1 := HA.out.2.2.1
                    have cHA2 := HA.out.2.2.2.1
                    have cHVW0 := HVW.out.2.1
                    go_wp2_with fail
                    go_ret
                    exact BoolIs.mk rfl HB.out
                exact AllReadyH.nil
              exact AllReadyH.nil
            exact AllReadyH.nil
          exact AllReadyH.nil
        exact AllReadyH.nil
      exact AllReadyH.nil
    exact AllReadyH.nil
  refine AllReadyH.cons (o := _) rfl (fun K hK => ?_) ?_
  · clear hHeld
    go_simp
    obtain ⟨W29, hWn⟩ : ∃ xw9, W28.alloc (.cells #[.int .i64 1, .float .f64 0, .int .i32 c, .slice none 0 0] 47) = xw9 := ⟨_, rfl⟩
    have hB : Below W28.heap.size W28 W29 := by rw [← hWn]; exact below_new _ _
    have hNB : Its W29 (fun _ => True) (.slice (some ⟨W28.heap.size, 0, none⟩) 1 1) [(1, 0, c, [])] := by rw [← hWn]; exact (Its.one (ok := fun _ => True) ((1, 0, c, []) : PI) (IsB.nil _ _)).wide (fun _ _ _ => trivial)
    rw [hWn]
    clear hWn
    obtain ⟨b1, hnm⟩ : ∃ x, W28.heap.size = x := ⟨_, rfl⟩
    rw [hnm] at hNB ⊢
    replace HA := Lib.hid (HA.out.below hB)
    replace HB := Lib.hid (HB.out.trans (hB.mono HB.out.size))
    replace HI := Lib.hid (HI.out.grow hB)
    replace HV := Lib.hid (HV.out.below hB)
    replace HT := Lib.hid (fun j hj => keep_below hB _ _ (HT.out j hj))
    replace HBR := Lib.hid (HBR.out.grow hB)
    replace HVB := Lib.hid (HVB.out.below hB)
    replace HOR := Lib.hid (HOR.out.grow hB)
    replace HDR := Lib.hid (HDR.out.grow hB)
    replace HVD := Lib.hid (HVD.out.below hB)
    have HI1 := Lib.hid hNB
    clear hNB hB hnm
    refine hK.out _ _ ?_ (fun hHeld => ?_)
    · exact ⟨HA.out.2.1, HA.out.2.2.1, HA.out.2.2.2.1, HVB.out.2.1, HVB.out.2.2.1, HVD.out.2.1, HVD.out.2.2.1⟩
    clear hK K
    refine wpAnyH_take (i := 5) (v := ?_) rfl (by kernel_rfl) (by kernel_rfl) (by kernel_rfl) (fun _ _ _ h => h) (Or.inl ⟨by rfl, ?_⟩) (by assumption) ?_
    rotate_left
    · (intro w hSw; (try dsimp only at hSw); go_simp; try with_reducible rfl)
    simp only [Act.put, List.getElem_toArray, List.getElem_cons_succ, List.getElem_cons_zero, List.setIfInBounds_toArray, List.set_cons_zero, List.set_cons_succ]
    refine wpAnyH_ready (rs := [1]) (by kernel_rfl) (by simp) ?_
    refine AllReadyH.cons (o := _) rfl (fun K hK => ?_) ?_
    · clear hHeld
      go_simp
      refine (plain_calls_at 40 _ (arrP 40 (charP c)) _ _ _ (gA_dA HGC.out) HBR.out).mono ?_
      rintro e W30 ⟨up, rfl, hup, hB⟩
      replace HA := Lib.hid (HA.out.below hB)
      replace HB := Lib.hid (HB.out.trans (hB.mono HB.out.size))
      replace HI := Lib.hid (HI.out.grow hB)
      replace HV := Lib.hid (HV.out.below hB)
      replace HT := Lib.hid (fun j hj => keep_below hB _ _ (HT.out j hj))
      replace HBR := Lib.hid (HBR.out.grow hB)
      replace HVB := Lib.hid (HVB.out.below hB)
      replace HOR := Lib.hid (HOR.out.grow hB)
      replace HDR := Lib.hid (HDR.out.grow hB)
      replace HVD := Lib.hid (HVD.out.below hB)
      replace HI1 := Lib.hid (HI1.out.grow hB)
      rw [HPC.out] at hup
      have HUP := Lib.hid hup
      obtain ⟨uso, usc, uio, uic, rfl, _⟩ := hup.opened
      clear hup
      clear hB
      refine hK.out _ _ ?_ (fun hHeld => ?_)
      · exact ⟨HA.out.2.1, HA.out.2.2.1, HA.out.2.2.2.1, HVB.out.2.1, HVB.out.2.2.1, HVD.out.2.1, HVD.out.2.2.1⟩
      clear hK K
      refine wpAnyH_ready (rs := [6]) (by kernel_rfl) (by simp) ?_
      refine AllReadyH.cons (o := _) rfl (fun K hK => ?_) ?_
      · clear hHeld
        go_simp
        refine (psame_calls 40 _ _ (charP c) (charP c) _ _ 40 _ HNC.out HNC.out HUP.out (IsP.of (Slc.nil _ _) HI1.out)).mono ?_
        rintro e W31 ⟨rfl, hB⟩
        replace HA := Lib.hid (HA.out.below hB)
        replace HB := Lib.hid (HB.out.trans (hB.mono HB.out.size))
        replace HI := Lib.hid (HI.out.grow hB)
        replace HV := Lib.hid (HV.out.below hB)
        replace HT := Lib.hid (fun j hj => keep_below hB _ _ (HT.out j hj))
        replace HBR := Lib.hid (HBR.out.grow hB)
        replace HVB := Lib.hid (HVB.out.below hB)
        replace HOR := Lib.hid (HOR.out.grow hB)
        replace HDR := Lib.hid (HDR.out.grow hB)
        replace HVD := Lib.hid (HVD.out.below hB)
        replace HI1 := Lib.hid (HI1.out.grow hB)
        replace HUP := Lib.hid (HUP.out.grow hB)
        rw [pq_yes rfl]
        clear HUP HI1
        clear hB
        refine hK.out _ _ ?_ (fun hHeld => ?_)
        · exact ⟨HA.out.2.1, HA.out.2.2.1, HA.out.2.2.2.1, HVB.out.2.1, HVB.out.2.2.1, HVD.out.2.1, HVD.out.2.2.1⟩
        clear hK K
        refine wpAnyH_take (i := 7) (v := ?_) rfl (by kernel_rfl) (by kernel_rfl) (by kernel_rfl) (fun _ _ _ h => h) (Or.inl ⟨by rfl, ?_⟩) (by assumption) ?_
        rotate_left
        · (intro w hSw; (try dsimp only at hSw); go_simp; try with_reducible rfl)
        simp only [Act.put, List.getElem_toArray, List.getElem_cons_succ, List.getElem_cons_zero, List.setIfInBounds_toArray, List.set_cons_zero, List.set_cons_succ]
        refine wpAnyH_take (i := 8) (v := ?_) rfl (by kernel_rfl) (by kernel_rfl) (by kernel_rfl) (fun _ _ _ h => h) (Or.inl ⟨by rfl, ?_⟩) (by assumption) ?_
        rotate_left
        · (intro w hSw; (try dsimp only at hSw); go_simp; try with_reducible rfl)
        simp only [Act.put, List.getElem_toArray, List.getElem_cons_succ, List.getElem_cons_zero, List.setIfInBounds_toArray, List.set_cons_zero, List.set_cons_succ]
        refine wpAnyH_take (i := 9) (v := ?_) rfl (by kernel_rfl) (by kernel_rfl) (by kernel_rfl) (fun _ _ _ h => h) (Or.inl ⟨by rfl, ?_⟩) (by assumption) ?_
        rotate_left
        · (intro w hSw; (try dsimp only at hSw); go_simp; try with_reducible rfl)
        simp only [Act.put, List.getElem_toArray, List.getElem_cons_succ, List.getElem_cons_zero, List.setIfInBounds_toArray, List.set_cons_zero, List.set_cons_succ]
        refine wpAnyH_take (i := 11) (v := ?_) rfl (by kernel_rfl) (by kernel_rfl) (by kernel_rfl) (fun _ _ _ h => h) (Or.inl ⟨by rfl, ?_⟩) (by assumption) ?_
        rotate_left
        · (intro w hSw; (try dsimp only at hSw); go_simp; try with_reducible rfl)
        simp only [Act.put, List.getElem_toArray, List.getElem_cons_succ, List.getElem_cons_zero, List.setIfInBounds_toArray, List.set_cons_zero, List.set_cons_succ]
        refine wpAnyH_ready (rs := [10]) (by kernel_rfl) (by simp) ?_
        refine AllReadyH.cons (o := _) rfl (fun K hK => ?_) ?_
        · clear hHeld
          go_simp
          refine (plain_calls_at 41 _ (arrP 41 (boxP p)) _ _ _ (gA_dA HGB.out) HDR.out).mono ?_
          rintro e W32 ⟨uq, rfl, huq, hB⟩
          replace HA := Lib.hid (HA.out.below hB)
          replace HB := Lib.hid (HB.out.trans (hB.mono HB.out.size))
          replace HI := Lib.hid (HI.out.grow hB)
          replace HV := Lib.hid (HV.out.below hB)
          replace HT := Lib.hid (fun j hj => keep_below hB _ _ (HT.out j hj))
          replace HBR := Lib.hid (HBR.out.grow hB)
          replace HVB := Lib.hid (HVB.out.below hB)
          replace HOR := Lib.hid (HOR.out.grow hB)
          replace HDR := Lib.hid (HDR.out.grow hB)
          replace HVD := Lib.hid (HVD.out.below hB)
          rw [HPB.out] at huq
          have HUQ := Lib.hid huq
          obtain ⟨qso, qsc, qio, qic, rfl, _⟩ := huq.opened
          clear huq
          clear hB
          refine hK.out _ _ ?_ (fun hHeld => ?_)
          · exact ⟨HA.out.2.1, HA.out.2.2.1, HA.out.2.2.2.1, HVB.out.2.1, HVB.out.2.2.1, HVD.out.2.1, HVD.out.2.2.1⟩
          clear hK K
          refine wpAnyH_ready (rs := [12]) (by kernel_rfl) (by simp) ?_
          refine AllReadyH.cons (o := _) rfl (fun K hK => ?_) ?_
          · clear hHeld
            go_simp
            refine (ptidy_calls 40 _ p _ _ HCP.out HI.out).mono ?_
            rintro e W33 ⟨ut, rfl, hut, hB⟩
            replace HA := Lib.hid (HA.out.below hB)
            replace HB := Lib.hid (HB.out.trans (hB.mono HB.out.size))
            replace HI := Lib.hid (HI.out.grow hB)
            replace HV := Lib.hid (HV.out.below hB)
            replace HT := Lib.hid (fun j hj => keep_below hB _ _ (HT.out j hj))
            replace HBR := Lib.hid (HBR.out.grow hB)
            replace HVB := Lib.hid (HVB.out.below hB)
            replace HOR := Lib.hid (HOR.out.grow hB)
            replace HDR := Lib.hid (HDR.out.grow hB)
            replace HVD := Lib.hid (HVD.out.below hB)
            replace HUQ := Lib.hid (HUQ.out.grow hB)
            have HUT := Lib.hid (hut.wide (ok' := fun _ => True) (fun _ _ _ => trivial))
            obtain ⟨tso, tsc, tio, tic, rfl, _⟩ := hut.opened
            clear hut
            clear hB
            refine hK.out _ _ ?_ (fun hHeld => ?_)
            · exact ⟨HA.out.2.1, HA.out.2.2.1, HA.out.2.2.2.1, HVB.out.2.1, HVB.out.2.2.1, HVD.out.2.1, HVD.out.2.2.1⟩
            clear hK K
            refine wpAnyH_ready (rs := [13]) (by kernel_rfl) (by simp) ?_
            refine AllReadyH.cons (o := _) rfl (fun K hK => ?_) ?_
            · clear hHeld
              go_simp
              obtain ⟨W34, hWn⟩ : ∃ xw9, W33.alloc (.cells #[.slice tso (tidyP 40 p).s.length tsc, .slice tio (tidyP 40 p).l.length tic, .int .i64 (tidyP 40 p).f] 27) = xw9 := ⟨_, rfl⟩
              have hB : Below W33.heap.size W33 W34 := by rw [← hWn]; exact below_new _ _
              have hNB : IsB W34 (fun _ => True) (.slice (some ⟨W33.heap.size, 0, none⟩) 1 1) [tidyP 40 p] := by rw [← hWn]; exact (IsB.one (ok := fun _ => True) HUT.out _).wide (fun _ _ _ => trivial)
              rw [hWn]
              clear hWn
              obtain ⟨b2, hnm⟩ : ∃ x, W33.heap.size = x := ⟨_, rfl⟩
              rw [hnm] at hNB ⊢
              replace HA := Lib.hid (HA.out.below hB)
              replace HB := Lib.hid (HB.out.trans (hB.mono HB.out.size))
              replace HI := Lib.hid (HI.out.grow hB)
              replace HV := Lib.hid (HV.out.below hB)
              replace HT := Lib.hid (fun j hj => keep_below hB _ _ (HT.out j hj))
              replace HBR := Lib.hid (HBR.out.grow hB)
              replace HVB := Lib.hid (HVB.out.below hB)
              replace HOR := Lib.hid (HOR.out.grow hB)
              replace HDR := Lib.hid (HDR.out.grow hB)
              replace HVD := Lib.hid (HVD.out.below hB)
              replace HUQ := Lib.hid (HUQ.out.grow hB)
              replace HUT := Lib.hid (HUT.out.grow hB)
              have HBX := Lib.hid hNB
              clear hNB hB hnm
              refine hK.out _ _ ?_ (fun hHeld => ?_)
              · exact ⟨HA.out.2.1, HA.out.2.2.1, HA.out.2.2.2.1, HVB.out.2.1, HVB.out.2.2.1, HVD.out.2.1, HVD.out.2.2.1⟩
              clear hK K
              refine wpAnyH_take (i := 14) (v := ?_) rfl (by kernel_rfl) (by kernel_rfl) (by kernel_rfl) (fun _ _ _ h => h) (Or.inl ⟨by rfl, ?_⟩) (by assumption) ?_
              rotate_left
              · (intro w hSw; (try dsimp only at hSw); go_simp; try with_reducible rfl)
              simp only [Act.put, List.getElem_toArray, List.getElem_cons_succ, List.getElem_cons_zero, List.setIfInBounds_toArray, List.set_cons_zero, List.set_cons_succ]
              refine wpAnyH_ready (rs := [15]) (by kernel_rfl) (by simp) ?_
              refine AllReadyH.cons (o := _) rfl (fun K hK => ?_) ?_
              · clear hHeld
                go_simp
                obtain ⟨W35, hWn⟩ : ∃ xw9, W34.alloc (.cells #[.int .i64 2, .float .f64 0, .int .i32 0, .slice (some ⟨b2, 0, none⟩) 1 1] 47) = xw9 := ⟨_, rfl⟩
                have hB : Below W34.heap.size W34 W35 := by rw [← hWn]; exact below_new _ _
                have hNB : Its W35 (fun _ => True) (.slice (some ⟨W34.heap.size, 0, none⟩) 1 1) [(2, 0, 0, [tidyP 40 p])] := by rw [← hWn]; exact (Its.one (ok := fun _ => True) ((2, 0, 0, [tidyP 40 p]) : PI) HBX.out).wide (fun _ _ _ => trivial)
                rw [hWn]
                clear hWn
                obtain ⟨b3, hnm⟩ : ∃ x, W34.heap.size = x := ⟨_, rfl⟩
                rw [hnm] at hNB ⊢
                replace HA := Lib.hid (HA.out.below hB)
                replace HB := Lib.hid (HB.out.trans (hB.mono HB.out.size))
                replace HI := Lib.hid (HI.out.grow hB)
                replace HV := Lib.hid (HV.out.below hB)
                replace HT := Lib.hid (fun j hj => keep_below hB _ _ (HT.out j hj))
                replace HBR := Lib.hid (HBR.out.grow hB)
                replace HVB := Lib.hid (HVB.out.below hB)
                replace HOR := Lib.hid (HOR.out.grow hB)
                replace HDR := Lib.hid (HDR.out.grow hB)
                replace HVD := Lib.hid (HVD.out.below hB)
                replace HUQ := Lib.hid (HUQ.out.grow hB)
                replace HUT := Lib.hid (HUT.out.grow hB)
                replace HBX := Lib.hid (HBX.out.grow hB)
                have HI2 := Lib.hid hNB
                clear hNB hB hnm
                refine hK.out _ _ ?_ (fun hHeld => ?_)
                · exact ⟨HA.out.2.1, HA.out.2.2.1, HA.out.2.2.2.1, HVB.out.2.1, HVB.out.2.2.1, HVD.out.2.1, HVD.out.2.2.1⟩
                clear hK K
                refine wpAnyH_take (i := 16) (v := ?_) rfl (by kernel_rfl) (by kernel_rfl) (by kernel_rfl) (fun _ _ _ h => h) (Or.inl ⟨by rfl, ?_⟩) (by assumption) ?_
                rotate_left
                · (intro w hSw; (try dsimp only at hSw); go_simp; try with_reducible rfl)
                simp only [Act.put, List.getElem_toArray, List.getElem_cons_succ, List.getElem_cons_zero, List.setIfInBounds_toArray, List.set_cons_zero, List.set_cons_succ]
                refine wpAnyH_ready (rs := [17]) (by kernel_rfl) (by simp) ?_
                refine AllReadyH.cons (o := _) rfl (fun K hK => ?_) ?_
                · clear hHeld
                  go_simp
                  refine (psame_calls 41 _ _ (boxP (tidyP 40 p)) (boxP (tidyP 40 p)) _ _ 41 _ HNB.out HNB.out HUQ.out (IsP.of (Slc.nil _ _) HI2.out)).mono ?_
                  rintro e W36 ⟨rfl, hB⟩
                  replace HA := Lib.hid (HA.out.below hB)
                  replace HB := Lib.hid (HB.out.trans (hB.mono HB.out.size))
                  replace HI := Lib.hid (HI.out.grow hB)
                  replace HV := Lib.hid (HV.out.below hB)
                  replace HT := Lib.hid (fun j hj => keep_below hB _ _ (HT.out j hj))
                  replace HBR := Lib.hid (HBR.out.grow hB)
                  replace HVB := Lib.hid (HVB.out.below hB)
                  replace HOR := Lib.hid (HOR.out.grow hB)
                  replace HDR := Lib.hid (HDR.out.grow hB)
                  replace HVD := Lib.hid (HVD.out.below hB)
                  replace HUQ := Lib.hid (HUQ.out.grow hB)
                  replace HUT := Lib.hid (HUT.out.grow hB)
                  replace HBX := Lib.hid (HBX.out.grow hB)
                  replace HI2 := Lib.hid (HI2.out.grow hB)
                  rw [pq_yes rfl]
                  clear hB
                  refine hK.out _ _ ?_ (fun hHeld => ?_)
                  · exact ⟨HA.out.2.1, HA.out.2.2.1, HA.out.2.2.2.1, HVB.out.2.1, HVB.out.2.2.1, HVD.out.2.1, HVD.out.2.2.1⟩
                  clear hK K
                  refine wpAnyH_take (i := 18) (v := ?_) rfl (by kernel_rfl) (by kernel_rfl) (by kernel_rfl) (fun _ _ _ h => h) (Or.inl ⟨by rfl, ?_⟩) (by assumption) ?_
                  rotate_left
                  · (intro w hSw; (try dsimp only at hSw); go_simp; try with_reducible rfl)
                  simp only [Act.put, List.getElem_toArray, List.getElem_cons_succ, List.getElem_cons_zero, List.setIfInBounds_toArray, List.set_cons_zero, List.set_cons_succ]
                  refine wpAnyH_take (i := 19) (v := ?_) rfl (by kernel_rfl) (by kernel_rfl) (by kernel_rfl) (fun _ _ _ h => h) (Or.inl ⟨by rfl, ?_⟩) (by assumption) ?_
                  rotate_left
                  · (intro w hSw; (try dsimp only at hSw); go_simp; try with_reducible rfl)
                  simp only [Act.put, List.getElem_toArray, List.getElem_cons_succ, List.getElem_cons_zero, List.setIfInBounds_toArray, List.set_cons_zero, List.set_cons_succ]
                  refine wpAnyH_done (by kernel_rfl) ?_ _
                  clear hHeld
                  have cHA0 := HA.out.2.1
                  have cHA1 := HA.out.2.2.1
                  have cHA2 := HA.out.2.2.2.1
                  go_wp2_with fail
                  by_cases hfl : ∀ y ∈ l, Fnt y
                  · have HFL := Lib.hid hfl
                    clear hfl
                    refine (vfloats_yes _ l _ HV.out (by have := HLM.out; omega) HFL.out).mono ?_
                    rintro e W37 ⟨uv, rfl, hUV, hB⟩
                    clear cHA0 cHA1 cHA2
                    replace HA := Lib.hid (HA.out.below hB)
                    replace HB := Lib.hid (HB.out.trans (hB.mono HB.out.size))
                    replace HV := Lib.hid (HV.out.below hB)
                    replace HT := Lib.hid (fun j hj => keep_below hB _ _ (HT.out j hj))
                    replace HOR := Lib.hid (HOR.out.grow hB)
                    have HUV := Lib.hid hUV
                    have hsv := hUV.store
                    clear hUV
                    clear hB
                    have cHA0 := HA.out.2.1
                    have cHA1 := HA.out.2.2.1
                    have cHA2 := HA.out.2.2.2.1
                    go_wp2_with fail
                    obtain ⟨W38, hWn⟩ : ∃ xw9, W37.alloc (.cells #[uv] 32) = xw9 := ⟨_, rfl⟩
                    have hB : Below W37.heap.size W37 W38 := by rw [← hWn]; exact below_new _ _
                    have hNB : At1 W38 W37.heap.size (uv) := by rw [← hWn]; exact At1.new _ _ _
                    rw [hWn]
                    clear hWn
                    obtain ⟨bv, hnm⟩ : ∃ x, W37.heap.size = x := ⟨_, rfl⟩
                    rw [hnm] at hNB ⊢
                    clear cHA0 cHA1 cHA2
                    replace HA := Lib.hid (HA.out.below hB)
                    replace HB := Lib.hid (HB.out.trans (hB.mono HB.out.size))
                    replace HV := Lib.hid (HV.out.below hB)
                    replace HT := Lib.hid (fun j hj => keep_below hB _ _ (HT.out j hj))
                    replace HOR := Lib.hid (HOR.out.grow hB)
                    replace HUV := Lib.hid (HUV.out.grow hB)
                    have HVW := Lib.hid hNB
                    clear hNB hB hnm
                    have cHA0 := HA.out.2.1
                    have cHA1 := HA.out.2.2.1
                    have cHA2 := HA.out.2.2.2.1
                    have cHVW0 := HVW.out.2.1
                    have HFK := Lib.hid (show (VV.floats (l.map ze)).ok by have := HLM.out; simp [VV.ok]; omega)
                    have HFM := Lib.hid (show (VV.floats (l.map ze)).nm by
                      intro y hy
                      simp only [List.mem_map] at hy
                      obtain ⟨z, hz, rfl⟩ := hy
                      exact ze_num (HFL.out z hz))
                    have HQC := Lib.hid (show chk 40 (numsP l) = 0 from (nums_chk (by have := HLM.out; omega)).2 HFL.out)
                    have HGQ := Lib.hid (arrP_good 40 _ HQC.out)
                    have HPQ := Lib.hid (plA_arrP 40 _ HQC.out)
                    have HNQ := Lib.hid (nice_tidy 40 _ HQC.out)
                    refine (valList_calls _ (.floats (l.map ze)) _ HUV.out HFK.out HFM.out HT.out).mono ?_
                    rintro e W39 ⟨so4, sc4, ua4, rfl, hLA, hB⟩
                    clear cHA0 cHA1 cHA2 cHVW0
                    replace HA := Lib.hid (HA.out.below hB)
                    replace HB := Lib.hid (HB.out.trans (hB.mono HB.out.size))
                    replace HV := Lib.hid (HV.out.below hB)
                    replace HT := Lib.hid (fun j hj => keep_below hB _ _ (HT.out j hj))
                    replace HOR := Lib.hid (HOR.out.grow hB)
                    replace HUV := Lib.hid (HUV.out.grow hB)
                    replace HVW := Lib.hid (HVW.out.below hB)
                    rw [show (VV.floats (l.map ze)).len = l.length from by simp [VV.len]] at hLA
                    have HLA := Lib.hid (show IsArr W39 (fun _ => True) (.slice so4 1 sc4) ua4 (arrP 40 (numsP l)) by rw [nums_arr]; exact ⟨hLA.1.keep (Kept.refl _ _) (fun _ _ _ => trivial), hLA.2.wide (fun _ _ _ => trivial)⟩)
                    clear hLA
                    clear hB
                    have cHA0 := HA.out.2.1
                    have cHA1 := HA.out.2.2.1
                    have cHA2 := HA.out.2.2.2.1
                    have cHVW0 := HVW.out.2.1
                    go_wp2_with fail
                    refine (plain_calls_at 40 _ (arrP 40 (numsP l)) _ _ _ (gA_dA HGQ.out) HLA.out).mono ?_
                    rintro e W40 ⟨up4, rfl, hup, hB⟩
                    clear cHA0 cHA1 cHA2 cHVW0
                    replace HA := Lib.hid (HA.out.below hB)
                    replace HB := Lib.hid (HB.out.trans (hB.mono HB.out.size))
                    replace HV := Lib.hid (HV.out.below hB)
                    replace HT := Lib.hid (fun j hj => keep_below hB _ _ (HT.out j hj))
                    replace HOR := Lib.hid (HOR.out.grow hB)
                    replace HUV := Lib.hid (HUV.out.grow hB)
                    replace HVW := Lib.hid (HVW.out.below hB)
                    replace HLA := Lib.hid (HLA.out.grow hB)
                    rw [HPQ.out] at hup
                    have HUP := Lib.hid hup
                    obtain ⟨p4, q4, r4, t4, rfl, _⟩ := hup.opened
                    clear hup
                    clear hB
                    have cHA0 := HA.out.2.1
                    have cHA1 := HA.out.2.2.1
                    have cHA2 := HA.out.2.2.2.1
                    have cHVW0 := HVW.out.2.1
                    go_wp2_with fail
                    refine (rNums_calls _ l _ HV.out (by have := HLM.out; omega)).mono ?_
                    rintro e W41 ⟨un4, rfl, hun, hB⟩
                    clear cHA0 cHA1 cHA2 cHVW0
                    replace HA := Lib.hid (HA.out.below hB)
                    replace HB := Lib.hid (HB.out.trans (hB.mono HB.out.size))
                    replace HV := Lib.hid (HV.out.below hB)
                    replace HT := Lib.hid (fun j hj => keep_below hB _ _ (HT.out j hj))
                    replace HOR := Lib.hid (HOR.out.grow hB)
                    replace HUV := Lib.hid (HUV.out.grow hB)
                    replace HVW := Lib.hid (HVW.out.below hB)
                    replace HLA := Lib.hid (HLA.out.grow hB)
                    replace HUP := Lib.hid (HUP.out.grow hB)
                    have HUN := Lib.hid hun
                    obtain ⟨p5, q5, r5, t5, rfl, _⟩ := hun.opened
                    clear hun
                    clear hB
                    have cHA0 := HA.out.2.1
                    have cHA1 := HA.out.2.2.1
                    have cHA2 := HA.out.2.2.2.1
                    have cHVW0 := HVW.out.2.1
                    go_wp2_with fail
                    refine (ptidy_calls 40 _ (numsP l) _ _ HQC.out HUN.out).mono ?_
                    rintro e W42 ⟨ut4, rfl, hut, hB⟩
                    clear cHA0 cHA1 cHA2 cHVW0
                    replace HA := Lib.hid (HA.out.below hB)
                    replace HB := Lib.hid (HB.out.trans (hB.mono HB.out.size))
                    replace HV := Lib.hid (HV.out.below hB)
                    replace HT := Lib.hid (fun j hj => keep_below hB _ _ (HT.out j hj))
                    replace HOR := Lib.hid (HOR.out.grow hB)
                    replace HUV := Lib.hid (HUV.out.grow hB)
                    replace HVW := Lib.hid (HVW.out.below hB)
                    replace HLA := Lib.hid (HLA.out.grow hB)
                    replace HUP := Lib.hid (HUP.out.grow hB)
                    replace HUN := Lib.hid (HUN.out.grow hB)
                    have HUT := Lib.hid hut
                    obtain ⟨p6, q6, r6, t6, rfl, _⟩ := hut.opened
                    clear hut
                    clear hB
                    have cHA0 := HA.out.2.1
                    have cHA1 := HA.out.2.2.1
                    have cHA2 := HA.out.2.2.2.1
                    have cHVW0 := HVW.out.2.1
                    go_wp2_with fail
                    refine (psame_calls 40 _ _ (tidyP 40 (numsP l)) (tidyP 40 (numsP l)) _ _ 40 _ HNQ.out HNQ.out HUP.out HUT.out).mono ?_
                    rintro e W43 ⟨rfl, hB⟩
                    clear cHA0 cHA1 cHA2 cHVW0
                    replace HA := Lib.hid (HA.out.below hB)
                    replace HB := Lib.hid (HB.out.trans (hB.mono HB.out.size))
                    replace HV := Lib.hid (HV.out.below hB)
                    replace HT := Lib.hid (fun j hj => keep_below hB _ _ (HT.out j hj))
                    replace HOR := Lib.hid (HOR.out.grow hB)
                    replace HUV := Lib.hid (HUV.out.grow hB)
                    replace HVW := Lib.hid (HVW.out.below hB)
                    replace HLA := Lib.hid (HLA.out.grow hB)
                    replace HUP := Lib.hid (HUP.out.grow hB)
                    replace HUN := Lib.hid (HUN.out.grow hB)
                    replace HUT := Lib.hid (HUT.out.grow hB)
                    rw [pq_yes rfl]
                    clear hB
                    have cHA0 := HA.out.2.1
                    have cHA1 := HA.out.2.2.1
                    have cHA2 := HA.out.2.2.2.1
                    have cHVW0 := HVW.out.2.1
                    go_wp2_with fail
                    refine (awake7_calls _ HT.out).mono ?_
                    rintro e W44 ⟨rfl, hB⟩
                    clear cHA0 cHA1 cHA2 cHVW0
                    replace HA := Lib.hid (HA.out.below hB)
                    replace HB := Lib.hid (HB.out.trans (hB.mono HB.out.size))
                    replace HV := Lib.hid (HV.out.below hB)
                    replace HT := Lib.hid (fun j hj => keep_below hB _ _ (HT.out j hj))
                    replace HOR := Lib.hid (HOR.out.grow hB)
                    replace HUV := Lib.hid (HUV.out.grow hB)
                    replace HVW := Lib.hid (HVW.out.below hB)
                    replace HLA := Lib.hid (HLA.out.grow hB)
                    replace HUP := Lib.hid (HUP.out.grow hB)
                    replace HUN := Lib.hid (HUN.out.grow hB)
                    replace HUT := Lib.hid (HUT.out.grow hB)
                    clear hB
                    have cHA0 := HA.out.2.1
                    have cHA1 := HA.out.2.2.1
                    have cHA2 := HA.out.2.2.2.1
                    have cHVW0 := HVW.out.2.1
                    go_wp2_with fail
                    go_ret
                    exact BoolIs.mk rfl HB.out
                  · have HFL := Lib.hid (show ∃ y ∈ l, ¬ Fnt y from Classical.byContradiction fun h => hfl fun y hy => Classical.byContradiction fun h2 => h ⟨y, hy, h2⟩)
                    clear hfl
                    refine (vfloats_no _ l _ HV.out (by have := HLM.out; omega) HLX.out.2 HFL.out).mono ?_
                    rintro e W37 ⟨uv, rfl, hUV, hB⟩
                    clear cHA0 cHA1 cHA2
                    replace HA := Lib.hid (HA.out.below hB)
                    replace HB := Lib.hid (HB.out.trans (hB.mono HB.out.size))
                    replace HV := Lib.hid (HV.out.below hB)
                    replace HT := Lib.hid (fun j hj => keep_below hB _ _ (HT.out j hj))
                    replace HOR := Lib.hid (HOR.out.grow hB)
                    have HUV := Lib.hid hUV
                    have hsv := hUV.store
                    clear hUV
                    clear hB
                    have cHA0 := HA.out.2.1
                    have cHA1 := HA.out.2.2.1
                    have cHA2 := HA.out.2.2.2.1
                    go_wp2_with fail
                    obtain ⟨W38, hWn⟩ : ∃ xw9, W37.alloc (.cells #[uv] 32) = xw9 := ⟨_, rfl⟩
                    have hB : Below W37.heap.size W37 W38 := by rw [← hWn]; exact below_new _ _
                    have hNB : At1 W38 W37.heap.size (uv) := by rw [← hWn]; exact At1.new _ _ _
                    rw [hWn]
                    clear hWn
                    obtain ⟨bv, hnm⟩ : ∃ x, W37.heap.size = x := ⟨_, rfl⟩
                    rw [hnm] at hNB ⊢
                    clear cHA0 cHA1 cHA2
                    replace HA := Lib.hid (HA.out.below hB)
                    replace HB := Lib.hid (HB.out.trans (hB.mono HB.out.size))
                    replace HV := Lib.hid (HV.out.below hB)
                    replace HT := Lib.hid (fun j hj => keep_below hB _ _ (HT.out j hj))
                    replace HOR := Lib.hid (HOR.out.grow hB)
                    have HVW := Lib.hid hNB
                    clear hNB hB hnm
                    have cHA0 := HA.out.2.1
                    have cHA1 := HA.out.2.2.1
                    have cHA2 := HA.out.2.2.2.1
                    have cHVW0 := HVW.out.2.1
                    refine (awake7_calls _ HT.out).mono ?_
                    rintro e W39 ⟨rfl, hB⟩
                    clear cHA0 cHA1 cHA2 cHVW0
                    replace HA := Lib.hid (HA.out.below hB)
                    replace HB := Lib.hid (HB.out.trans (hB.mono HB.out.size))
                    replace HV := Lib.hid (HV.out.below hB)
                    replace HT := Lib.hid (fun j hj => keep_below hB _ _ (HT.out j hj))
                    replace HOR := Lib.hid (HOR.out.grow hB)
                    replace HVW := Lib.hid (HVW.out.below hB)
                    clear hB
                    have cHA0 := HA.out.2.1
                    have cHA1 := HA.out.2.2.1
                    have cHA2 := HA.out.2.2.2.1
                    have cHVW0 := HVW.out.2.1
                    go_wp2_with fail
                    go_ret
                    exact BoolIs.mk rfl HB.out
                exact AllReadyH.nil
              exact AllReadyH.nil
            exact AllReadyH.nil
          exact AllReadyH.nil
        exact AllReadyH.nil
      exact AllReadyH.nil
    exact AllReadyH.nil
  exact AllReadyH.nil
end Go.Proofs.YtohjomhiibkobaaGreatDoor

/- Package value's law: ValueAlone. -/
namespace Go.Proofs.YtohjomhiibkobaaGreatDoor
open Go.RowKit Fl
set_option linter.unusedVariables false
set_option maxRecDepth 100000

set_option maxHeartbeats 8000000 in
theorem valueAlone_no (x : Nat) (hxw : x < 18446744073709551616) (c : Int) (v : Value) (l : List Nat) (p : PA) (u : Value) (n : Nat) (w : World) (hv : Slc w (fun _ => True) v l.length (f64s l)) (hf : ∀ y ∈ l, y < 18446744073709551616) (hl : lo n p) (hp : IsP w (fun _ => True) u p) (hT : TabAt w) (hfx : ¬ Fnt x) :
    Calls Tryz.prog 3 #[.float .f64 x, .int .i32 c, v, u] w (BoolIs true w) := by
  have HP := Lib.hid hp
  have HVV := Lib.hid hv
  obtain ⟨so, sc, io, ic, rfl, hs, hit⟩ := hp.opened
  obtain ⟨vo, vc, rfl, hvc, hvm, _⟩ := hv.opened
  have HL := Lib.hid hl
  have HLX := Lib.hid (And.intro hxw hf)
  have HFX := Lib.hid hfx
  obtain ⟨W1, hW1⟩ : ∃ W1, W1 = w.alloc (.cells #[.slice so p.s.length sc, .slice io p.l.length ic, .int .i64 p.f] 27) := ⟨_, rfl⟩
  have HA := Lib.hid (show At3 W1 w.heap.size (.slice so p.s.length sc) (.slice io p.l.length ic) (.int .i64 p.f) by rw [hW1]; exact At3.new w _ _ _ _)
  have HB := Lib.hid (show Below w.heap.size w W1 by rw [hW1]; exact below_new _ _)
  have HI := Lib.hid (show IsP W1 (fun b => b < w.heap.size) _ p from (HP.out.wide (fun b h _ => h)).grow HB.out)
  have HV := Lib.hid (show Slc W1 (fun b => b < w.heap.size) _ l.length (f64s l) from (HVV.out.keep (Kept.refl _ _) (fun b h _ => h)).below HB.out)
  have HT := Lib.hid (show TabAt W1 from fun j hj => keep_below HB.out _ _ (hT j hj))
  obtain ⟨cc, hc⟩ : ∃ cc, cc = chk 40 p := ⟨_, rfl⟩
  have HC := Lib.hid hc
  obtain ⟨dp, hd⟩ : ∃ dp, dp = depP 40 p := ⟨_, rfl⟩
  have HDP := Lib.hid hd
  have HFW := Lib.hid hW1.symm
  clear hs hit hp hl hv hT hW1 hc hd hxw hf hfx
  by_cases hlong : 500 < l.length
  · go_enter Tryz.func3, Tryz.ntmps3
    go_wp2_with fail
    rw [HFW.out]
    refine (awake7_calls _ HT.out).mono ?_
    rintro e w1 ⟨rfl, hB⟩
    replace HB := Lib.hid (HB.out.trans (hB.mono HB.out.size))
    clear hB
    go_wp2_with fail
    go_ret
    exact BoolIs.mk rfl HB.out
  have HLM := Lib.hid (Nat.le_of_not_lt hlong)
  have hlg : ((500 : Int) < (l.length : Int)) = False := eq_false (by omega)
  go_enter Tryz.func3, Tryz.ntmps3
  go_wp2_with fail
  rw [HFW.out]
  refine (pcount_calls n _ p _ _ _ HL.out HI.out).mono ?_
  rintro e W11 ⟨cn, rfl, hB⟩
  replace HA := Lib.hid (HA.out.below hB)
  replace HB := Lib.hid (HB.out.trans (hB.mono HB.out.size))
  replace HI := Lib.hid (HI.out.grow hB)
  replace HV := Lib.hid (HV.out.below hB)
  replace HT := Lib.hid (fun j hj => keep_below hB _ _ (HT.out j hj))
  clear hB
  have cHA0 := HA.out.2.1
  have cHA1 := HA.out.2.2.1
  have cHA2 := HA.out.2.2.2.1
  by_cases hcn : 2000 < cn
  · go_wp2_with fail
    refine (awake7_calls _ HT.out).mono ?_
    rintro e W12 ⟨rfl, hB⟩
    clear cHA0 cHA1 cHA2
    replace HA := Lib.hid (HA.out.below hB)
    replace HB := Lib.hid (HB.out.trans (hB.mono HB.out.size))
    replace HI := Lib.hid (HI.out.grow hB)
    replace HV := Lib.hid (HV.out.below hB)
    replace HT := Lib.hid (fun j hj => keep_below hB _ _ (HT.out j hj))
    clear hB
    have cHA0 := HA.out.2.1
    have cHA1 := HA.out.2.2.1
    have cHA2 := HA.out.2.2.2.1
    go_wp2_with fail
    go_ret
    exact BoolIs.mk rfl HB.out
  go_wp2_with fail
  refine (vCheck_calls _ p _ n _ HL.out HI.out).mono ?_
  rintro e W12 ⟨rfl, hB⟩
  clear cHA0 cHA1 cHA2
  replace HA := Lib.hid (HA.out.below hB)
  replace HB := Lib.hid (HB.out.trans (hB.mono HB.out.size))
  replace HI := Lib.hid (HI.out.grow hB)
  replace HV := Lib.hid (HV.out.below hB)
  replace HT := Lib.hid (fun j hj => keep_below hB _ _ (HT.out j hj))
  rw [← HC.out]
  clear hB
  have cHA0 := HA.out.2.1
  have cHA1 := HA.out.2.2.1
  have cHA2 := HA.out.2.2.2.1
  by_cases hc0 : cc = 0
  rotate_left
  · have hce : (cc != 0) = true := by simpa using hc0
    clear hc0
    go_wp2_with fail
    refine (awake7_calls _ HT.out).mono ?_
    rintro e W13 ⟨rfl, hB⟩
    clear cHA0 cHA1 cHA2
    replace HA := Lib.hid (HA.out.below hB)
    replace HB := Lib.hid (HB.out.trans (hB.mono HB.out.size))
    replace HI := Lib.hid (HI.out.grow hB)
    replace HV := Lib.hid (HV.out.below hB)
    replace HT := Lib.hid (fun j hj => keep_below hB _ _ (HT.out j hj))
    clear hB
    have cHA0 := HA.out.2.1
    have cHA1 := HA.out.2.2.1
    have cHA2 := HA.out.2.2.2.1
    go_wp2_with fail
    go_ret
    exact BoolIs.mk rfl HB.out
  have hce : (cc != 0) = false := by simpa using hc0
  have HCP := Lib.hid (show chk 40 p = 0 by rw [← HC.out]; exact hc0)
  go_wp2_with fail
  refine (rdepth_calls 40 _ p _ _ (by omega) HCP.out HI.out).mono ?_
  rintro e W13 ⟨rfl, hB⟩
  clear cHA0 cHA1 cHA2
  replace HA := Lib.hid (HA.out.below hB)
  replace HB := Lib.hid (HB.out.trans (hB.mono HB.out.size))
  replace HI := Lib.hid (HI.out.grow hB)
  replace HV := Lib.hid (HV.out.below hB)
  replace HT := Lib.hid (fun j hj => keep_below hB _ _ (HT.out j hj))
  rw [← HDP.out]
  clear hB
  have cHA0 := HA.out.2.1
  have cHA1 := HA.out.2.2.1
  have cHA2 := HA.out.2.2.2.1
  by_cases hd0 : 30 < dp
  · go_wp2_with fail
    refine (awake7_calls _ HT.out).mono ?_
    rintro e W14 ⟨rfl, hB⟩
    clear cHA0 cHA1 cHA2
    replace HA := Lib.hid (HA.out.below hB)
    replace HB := Lib.hid (HB.out.trans (hB.mono HB.out.size))
    replace HI := Lib.hid (HI.out.grow hB)
    replace HV := Lib.hid (HV.out.below hB)
    replace HT := Lib.hid (fun j hj => keep_below hB _ _ (HT.out j hj))
    clear hB
    have cHA0 := HA.out.2.1
    have cHA1 := HA.out.2.2.1
    have cHA2 := HA.out.2.2.2.1
    go_wp2_with fail
    go_ret
    exact BoolIs.mk rfl HB.out
  go_wp2_with fail
  clear hce hc0 hcn hd0
  refine (valNum_no x _ HLX.out.1 HFX.out).mono ?_
  rintro e W14 ⟨rfl, hB⟩
  clear cHA0 cHA1 cHA2
  replace HA := Lib.hid (HA.out.below hB)
  replace HB := Lib.hid (HB.out.trans (hB.mono HB.out.size))
  replace HI := Lib.hid (HI.out.grow hB)
  replace HV := Lib.hid (HV.out.below hB)
  replace HT := Lib.hid (fun j hj => keep_below hB _ _ (HT.out j hj))
  clear hB
  have cHA0 := HA.out.2.1
  have cHA1 := HA.out.2.2.1
  have cHA2 := HA.out.2.2.2.1
  go_wp2_with fail
  obtain ⟨W15, hWn⟩ : ∃ xw9, W14.alloc (.cells #[.slice none 0 0, .nilIface] 34) = xw9 := ⟨_, rfl⟩
  have hB : Below W14.heap.size W14 W15 := by rw [← hWn]; exact below_new _ _
  have hNB : At2 W15 W14.heap.size (.slice none 0 0) (.nilIface) := by rw [← hWn]; exact At2.new _ _ _ _
  rw [hWn]
  clear hWn
  obtain ⟨ba, hnm⟩ : ∃ x, W14.heap.size = x := ⟨_, rfl⟩
  rw [hnm] at hNB ⊢
  clear cHA0 cHA1 cHA2
  replace HA := Lib.hid (HA.out.below hB)
  replace HB := Lib.hid (HB.out.trans (hB.mono HB.out.size))
  replace HI := Lib.hid (HI.out.grow hB)
  replace HV := Lib.hid (HV.out.below hB)
  replace HT := Lib.hid (fun j hj => keep_below hB _ _ (HT.out j hj))
  have HVA := Lib.hid hNB
  clear hNB hB hnm
  have cHA0 := HA.out.2.1
  have cHA1 := HA.out.2.2.1
  have cHA2 := HA.out.2.2.2.1
  have cHVA0 := HVA.out.2.1
  have cHVA1 := HVA.out.2.2.1
  refine (valChar_calls c _).mono ?_
  rintro e W16 ⟨so2, sc2, ub, rfl, hBR, hB⟩
  clear cHA0 cHA1 cHA2 cHVA0 cHVA1
  replace HA := Lib.hid (HA.out.below hB)
  replace HB := Lib.hid (HB.out.trans (hB.mono HB.out.size))
  replace HI := Lib.hid (HI.out.grow hB)
  replace HV := Lib.hid (HV.out.below hB)
  replace HT := Lib.hid (fun j hj => keep_below hB _ _ (HT.out j hj))
  replace HVA := Lib.hid (HVA.out.below hB)
  have HBR := Lib.hid (show IsArr W16 (fun _ => True) (.slice so2 0 sc2) ub (arrP 40 (charP c)) by rw [char_arr]; exact hBR.wide (fun _ _ _ => trivial))
  have hsb := hBR.2.store
  clear hBR
  clear hB
  obtain ⟨W17, hWn⟩ : ∃ xw9, W16.alloc (.cells #[.slice so2 0 sc2, ub] 34) = xw9 := ⟨_, rfl⟩
  have hB : Below W16.heap.size W16 W17 := by rw [← hWn]; exact below_new _ _
  have hNB : At2 W17 W16.heap.size (.slice so2 0 sc2) (ub) := by rw [← hWn]; exact At2.new _ _ _ _
  replace HA := Lib.hid (HA.out.below hB)
  replace HB := Lib.hid (HB.out.trans (hB.mono HB.out.size))
  replace HI := Lib.hid (HI.out.grow hB)
  replace HV := Lib.hid (HV.out.below hB)
  replace HT := Lib.hid (fun j hj => keep_below hB _ _ (HT.out j hj))
  replace HVA := Lib.hid (HVA.out.below hB)
  replace HBR := Lib.hid (HBR.out.grow hB)
  have HVB := Lib.hid hNB
  clear hNB hB
  have cHA0 := HA.out.2.1
  have cHA1 := HA.out.2.2.1
  have cHA2 := HA.out.2.2.2.1
  have cHVA0 := HVA.out.2.1
  have cHVA1 := HVA.out.2.2.1
  have cHVB0 := HVB.out.2.1
  have cHVB1 := HVB.out.2.2.1
  go_wp2_with fail
  clear hWn
  refine (lof_calls _ p _ n _ HL.out HI.out HT.out HCP.out).mono ?_
  rintro e W18 ⟨so3, sc3, uo, rfl, hOR, hB⟩
  clear cHA0 cHA1 cHA2 cHVA0 cHVA1 cHVB0 cHVB1
  replace HA := Lib.hid (HA.out.below hB)
  replace HB := Lib.hid (HB.out.trans (hB.mono HB.out.size))
  replace HI := Lib.hid (HI.out.grow hB)
  replace HV := Lib.hid (HV.out.below hB)
  replace HT := Lib.hid (fun j hj => keep_below hB _ _ (HT.out j hj))
  replace HVA := Lib.hid (HVA.out.below hB)
  replace HBR := Lib.hid (HBR.out.grow hB)
  replace HVB := Lib.hid (HVB.out.below hB)
  have HOR := Lib.hid (show IsArr W18 (fun _ => True) (.slice so3 (arrP 40 p).1.length sc3) uo (arrP 40 p) from hOR.wide (fun _ _ _ => trivial))
  have hso := hOR.2.store
  have HON := Lib.hid (show (arrP 40 p).1.length ≤ 1048576 by have := arrP_s HCP.out; rw [this.1]; omega)
  clear hOR
  clear hB
  have cHA0 := HA.out.2.1
  have cHA1 := HA.out.2.2.1
  have cHA2 := HA.out.2.2.2.1
  have cHVA0 := HVA.out.2.1
  have cHVA1 := HVA.out.2.2.1
  have cHVB0 := HVB.out.2.1
  have cHVB1 := HVB.out.2.2.1
  go_wp2_with fail
  refine (valBox_calls _ _ (arrP 40 p) _ HOR.out HON.out).mono ?_
  rintro e W19 ⟨ud, rfl, hDR, hB⟩
  clear cHA0 cHA1 cHA2 cHVA0 cHVA1 cHVB0 cHVB1
  replace HA := Lib.hid (HA.out.below hB)
  replace HB := Lib.hid (HB.out.trans (hB.mono HB.out.size))
  replace HI := Lib.hid (HI.out.grow hB)
  replace HV := Lib.hid (HV.out.below hB)
  replace HT := Lib.hid (fun j hj => keep_below hB _ _ (HT.out j hj))
  replace HVA := Lib.hid (HVA.out.below hB)
  replace HBR := Lib.hid (HBR.out.grow hB)
  replace HVB := Lib.hid (HVB.out.below hB)
  replace HOR := Lib.hid (HOR.out.grow hB)
  have HDR := Lib.hid (show IsArr W19 (fun _ => True) (.slice none 0 0) ud (arrP 41 (boxP p)) by rw [box_arr]; exact ⟨Slc.nil _ _, hDR.wide (fun _ _ _ => trivial)⟩)
  have hsd := hDR.store
  clear hDR
  clear hB
  obtain ⟨W20, hWn⟩ : ∃ xw9, W19.alloc (.cells #[.slice none 0 0, ud] 34) = xw9 := ⟨_, rfl⟩
  have hB : Below W19.heap.size W19 W20 := by rw [← hWn]; exact below_new _ _
  have hNB : At2 W20 W19.heap.size (.slice none 0 0) (ud) := by rw [← hWn]; exact At2.new _ _ _ _
  replace HA := Lib.hid (HA.out.below hB)
  replace HB := Lib.hid (HB.out.trans (hB.mono HB.out.size))
  replace HI := Lib.hid (HI.out.grow hB)
  replace HV := Lib.hid (HV.out.below hB)
  replace HT := Lib.hid (fun j hj => keep_below hB _ _ (HT.out j hj))
  replace HVA := Lib.hid (HVA.out.below hB)
  replace HBR := Lib.hid (HBR.out.grow hB)
  replace HVB := Lib.hid (HVB.out.below hB)
  replace HOR := Lib.hid (HOR.out.grow hB)
  replace HDR := Lib.hid (HDR.out.grow hB)
  have HVD := Lib.hid hNB
  clear hNB hB
  have cHA0 := HA.out.2.1
  have cHA1 := HA.out.2.2.1
  have cHA2 := HA.out.2.2.2.1
  have cHVA0 := HVA.out.2.1
  have cHVA1 := HVA.out.2.2.1
  have cHVB0 := HVB.out.2.1
  have cHVB1 := HVB.out.2.2.1
  have cHVD0 := HVD.out.2.1
  have cHVD1 := HVD.out.2.2.1
  go_wp2_with fail
  clear hWn
  refine (rNum_calls x _).mono ?_
  rintro e W21 ⟨uN, rfl, hNP, hB⟩
  clear cHA0 cHA1 cHA2 cHVA0 cHVA1 cHVB0 cHVB1 cHVD0 cHVD1
  replace HA := Lib.hid (HA.out.below hB)
  replace HB := Lib.hid (HB.out.trans (hB.mono HB.out.size))
  replace HI := Lib.hid (HI.out.grow hB)
  replace HV := Lib.hid (HV.out.below hB)
  replace HT := Lib.hid (fun j hj => keep_below hB _ _ (HT.out j hj))
  replace HVA := Lib.hid (HVA.out.below hB)
  replace HBR := Lib.hid (HBR.out.grow hB)
  replace HVB := Lib.hid (HVB.out.below hB)
  replace HOR := Lib.hid (HOR.out.grow hB)
  replace HDR := Lib.hid (HDR.out.grow hB)
  replace HVD := Lib.hid (HVD.out.below hB)
  obtain ⟨ns, nsc, ni, nic, rfl, _⟩ := hNP.opened
  have HNP := Lib.hid (hNP.wide (ok' := fun _ => True) (fun _ _ _ => trivial))
  clear hNP
  clear hB
  obtain ⟨W22, hWn⟩ : ∃ xw9, W21.alloc (.cells #[.slice ns (numP x).s.length nsc, .slice ni (numP x).l.length nic, .int .i64 (numP x).f] 27) = xw9 := ⟨_, rfl⟩
  have hB : Below W21.heap.size W21 W22 := by rw [← hWn]; exact below_new _ _
  have hNB : At3 W22 W21.heap.size (.slice ns (numP x).s.length nsc) (.slice ni (numP x).l.length nic) (.int .i64 (numP x).f) := by rw [← hWn]; exact At3.new _ _ _ _ _
  replace HA := Lib.hid (HA.out.below hB)
  replace HB := Lib.hid (HB.out.trans (hB.mono HB.out.size))
  replace HI := Lib.hid (HI.out.grow hB)
  replace HV := Lib.hid (HV.out.below hB)
  replace HT := Lib.hid (fun j hj => keep_below hB _ _ (HT.out j hj))
  replace HVA := Lib.hid (HVA.out.below hB)
  replace HBR := Lib.hid (HBR.out.grow hB)
  replace HVB := Lib.hid (HVB.out.below hB)
  replace HOR := Lib.hid (HOR.out.grow hB)
  replace HDR := Lib.hid (HDR.out.grow hB)
  replace HVD := Lib.hid (HVD.out.below hB)
  replace HNP := Lib.hid (HNP.out.grow hB)
  have HVN := Lib.hid hNB
  clear hNB hB
  have cHA0 := HA.out.2.1
  have cHA1 := HA.out.2.2.1
  have cHA2 := HA.out.2.2.2.1
  have cHVA0 := HVA.out.2.1
  have cHVA1 := HVA.out.2.2.1
  have cHVB0 := HVB.out.2.1
  have cHVB1 := HVB.out.2.2.1
  have cHVD0 := HVD.out.2.1
  have cHVD1 := HVD.out.2.2.1
  have cHVN0 := HVN.out.2.1
  have cHVN1 := HVN.out.2.2.1
  have cHVN2 := HVN.out.2.2.2.1
  go_wp2_with fail
  clear hWn
  have HLN := Lib.hid (show lo 1 (numP x) from fun y hy => by
    obtain rfl : y = (0, x, 0, []) := by simpa [numP, PA.l] using hy
    exact ⟨HLX.out.1, fun q hq => by simp at hq⟩)
  have hcne : (chk 40 (numP x) == 0) = false := by
    simp only [beq_eq_false_iff_ne]
    exact fun h => HFX.out (num_chk.1 h)
  obtain ⟨cx, hcx⟩ : ∃ cx, cx = chk 40 (numP x) := ⟨_, rfl⟩
  rw [← hcx] at hcne
  have HCN := Lib.hid hcx
  clear hcx
  obtain ⟨W23, hWD⟩ : ∃ xw9, W22.drew = xw9 := ⟨_, rfl⟩
  have hB : Below W22.heap.size W22 W23 := by rw [← hWD]; exact Below.drewN' (Below.refl _ _) 1
  clear cHA0 cHA1 cHA2 cHVA0 cHVA1 cHVB0 cHVB1 cHVD0 cHVD1 cHVN0 cHVN1 cHVN2
  replace HA := Lib.hid (HA.out.below hB)
  replace HB := Lib.hid (HB.out.trans (hB.mono HB.out.size))
  replace HI := Lib.hid (HI.out.grow hB)
  replace HV := Lib.hid (HV.out.below hB)
  replace HT := Lib.hid (fun j hj => keep_below hB _ _ (HT.out j hj))
  replace HVA := Lib.hid (HVA.out.below hB)
  replace HBR := Lib.hid (HBR.out.grow hB)
  replace HVB := Lib.hid (HVB.out.below hB)
  replace HOR := Lib.hid (HOR.out.grow hB)
  replace HDR := Lib.hid (HDR.out.grow hB)
  replace HVD := Lib.hid (HVD.out.below hB)
  replace HNP := Lib.hid (HNP.out.grow hB)
  replace HVN := Lib.hid (HVN.out.below hB)
  clear hB
  refine wp_region_held_drew (S := fun w' => w'.cell? ⟨w.heap.size, 0, none⟩ = some (.slice so p.s.length sc) ∧ w'.cell? ⟨w.heap.size, 1, none⟩ = some (.slice io p.l.length ic) ∧ w'.cell? ⟨w.heap.size, 2, none⟩ = some (.int .i64 p.f) ∧ w'.cell? ⟨ba, 0, none⟩ = some (.slice none 0 0) ∧ w'.cell? ⟨ba, 1, none⟩ = some (.nilIface) ∧ w'.cell? ⟨W16.heap.size, 0, none⟩ = some (.slice so2 0 sc2) ∧ w'.cell? ⟨W16.heap.size, 1, none⟩ = some (ub) ∧ w'.cell? ⟨W19.heap.size, 0, none⟩ = some (.slice none 0 0) ∧ w'.cell? ⟨W19.heap.size, 1, none⟩ = some (ud) ∧ w'.cell? ⟨W21.heap.size, 0, none⟩ = some (.slice ns (numP x).s.length nsc) ∧ w'.cell? ⟨W21.heap.size, 1, none⟩ = some (.slice ni (numP x).l.length nic) ∧ w'.cell? ⟨W21.heap.size, 2, none⟩ = some (.int .i64 (numP x).f)) (by kernel_rfl) (by rw [hWD]; exact ⟨HA.out.2.1, HA.out.2.2.1, HA.out.2.2.2.1, HVA.out.2.1, HVA.out.2.2.1, HVB.out.2.1, HVB.out.2.2.1, HVD.out.2.1, HVD.out.2.2.1, HVN.out.2.1, HVN.out.2.2.1, HVN.out.2.2.2.1⟩) (fun hHeld => ?_)
  rw [hWD] at hHeld ⊢
  clear hWD
  refine wpAnyH_take (i := 0) (v := ?_) rfl (by kernel_rfl) (by kernel_rfl) (by kernel_rfl) (fun _ _ _ h => h) (Or.inl ⟨by rfl, ?_⟩) (by assumption) ?_
  rotate_left
  · (intro w hSw; (try dsimp only at hSw); go_simp; try with_reducible rfl)
  simp only [Act.put, List.getElem_toArray, List.getElem_cons_zero, List.setIfInBounds_toArray, List.set_cons_zero, List.set_cons_succ]
  refine wpAnyH_take (i := 1) (v := ?_) rfl (by kernel_rfl) (by kernel_rfl) (by kernel_rfl) (fun _ _ _ h => h) (Or.inl ⟨by rfl, ?_⟩) (by assumption) ?_
  rotate_left
  · (intro w hSw; (try dsimp only at hSw); go_simp; try with_reducible rfl)
  simp only [Act.put, List.getElem_toArray, List.getElem_cons_succ, List.getElem_cons_zero, List.setIfInBounds_toArray, List.set_cons_zero, List.set_cons_succ]
  refine wpAnyH_ready (rs := [2]) (by kernel_rfl) (by simp) ?_
  refine AllReadyH.cons (o := _) rfl (fun K hK => ?_) AllReadyH.nil
  clear hHeld
  go_simp
  refine (vCheck_calls _ (numP x) _ 1 _ HLN.out HNP.out).mono ?_
  rintro e W24 ⟨rfl, hB⟩
  replace HA := Lib.hid (HA.out.below hB)
  replace HB := Lib.hid (HB.out.trans (hB.mono HB.out.size))
  replace HI := Lib.hid (HI.out.grow hB)
  replace HV := Lib.hid (HV.out.below hB)
  replace HT := Lib.hid (fun j hj => keep_below hB _ _ (HT.out j hj))
  replace HVA := Lib.hid (HVA.out.below hB)
  replace HBR := Lib.hid (HBR.out.grow hB)
  replace HVB := Lib.hid (HVB.out.below hB)
  replace HOR := Lib.hid (HOR.out.grow hB)
  replace HDR := Lib.hid (HDR.out.grow hB)
  replace HVD := Lib.hid (HVD.out.below hB)
  replace HNP := Lib.hid (HNP.out.grow hB)
  replace HVN := Lib.hid (HVN.out.below hB)
  rw [← HCN.out]
  clear hB
  try go_simp
  refine hK.out _ _ ?_ (fun hHeld => ?_)
  · exact ⟨HA.out.2.1, HA.out.2.2.1, HA.out.2.2.2.1, HVA.out.2.1, HVA.out.2.2.1, HVB.out.2.1, HVB.out.2.2.1, HVD.out.2.1, HVD.out.2.2.1, HVN.out.2.1, HVN.out.2.2.1, HVN.out.2.2.2.1⟩
  clear hK K
  refine wpAnyH_take (i := 3) (v := ?_) rfl (by kernel_rfl) (by kernel_rfl) (by kernel_rfl) (fun _ _ _ h => h) (Or.inl ⟨by rfl, ?_⟩) (by assumption) ?_
  rotate_left
  · (intro w hSw; (try dsimp only at hSw); go_simp; try with_reducible rfl)
  simp only [Act.put, List.getElem_toArray, List.getElem_cons_succ, List.getElem_cons_zero, List.setIfInBounds_toArray, List.set_cons_zero, List.set_cons_succ]
  refine wpAnyH_take (i := 4) (v := ?_) rfl (by kernel_rfl) (by kernel_rfl) (by kernel_rfl) (fun _ _ _ h => h) (Or.inl ⟨by rfl, ?_⟩) (by assumption) ?_
  rotate_left
  · (intro w hSw; (try dsimp only at hSw); go_simp; try with_reducible rfl)
  simp only [Act.put, List.getElem_toArray, List.getElem_cons_succ, List.getElem_cons_zero, List.setIfInBounds_toArray, List.set_cons_zero, List.set_cons_succ]
  refine wpAnyH_take (i := 5) (v := ?_) rfl (by kernel_rfl) (by kernel_rfl) (by kernel_rfl) (fun _ _ _ h => h) (Or.inl ⟨by rfl, ?_⟩) (by assumption) ?_
  rotate_left
  · (intro w hSw; (try dsimp only at hSw); go_simp; try with_reducible rfl)
  simp only [Act.put, List.getElem_toArray, List.getElem_cons_succ, List.getElem_cons_zero, List.setIfInBounds_toArray, List.set_cons_zero, List.set_cons_succ]
  refine wpAnyH_take (i := 6) (v := ?_) rfl (by kernel_rfl) (by kernel_rfl) (by kernel_rfl) (fun _ _ _ h => h) (Or.inl ⟨by rfl, ?_⟩) (by assumption) ?_
  rotate_left
  · (intro w hSw; (try dsimp only at hSw); go_simp; try with_reducible rfl)
  simp only [Act.put, List.getElem_toArray, List.getElem_cons_succ, List.getElem_cons_zero, List.setIfInBounds_toArray, List.set_cons_zero, List.set_cons_succ]
  refine wpAnyH_take (i := 7) (v := ?_) rfl (by kernel_rfl) (by kernel_rfl) (by kernel_rfl) (fun _ _ _ h => h) (Or.inl ⟨by rfl, ?_⟩) (by assumption) ?_
  rotate_left
  · (intro w hSw; (try dsimp only at hSw); go_simp; try with_reducible rfl)
  simp only [Act.put, List.getElem_toArray, List.getElem_cons_succ, List.getElem_cons_zero, List.setIfInBounds_toArray, List.set_cons_zero, List.set_cons_succ]
  refine wpAnyH_take (i := 8) (v := undef) rfl (by kernel_rfl) (by kernel_rfl) (by kernel_rfl) (fun _ _ _ h => h) (Or.inr ⟨by rfl, rfl⟩) (by assumption) ?_
  simp only [Act.put, List.getElem_toArray, List.getElem_cons_succ, List.getElem_cons_zero, List.setIfInBounds_toArray, List.set_cons_zero, List.set_cons_succ]
  refine wpAnyH_take (i := 9) (v := undef) rfl (by kernel_rfl) (by kernel_rfl) (by kernel_rfl) (fun _ _ _ h => h) (Or.inr ⟨by rfl, rfl⟩) (by assumption) ?_
  simp only [Act.put, List.getElem_toArray, List.getElem_cons_succ, List.getElem_cons_zero, List.setIfInBounds_toArray, List.set_cons_zero, List.set_cons_succ]
  refine wpAnyH_take (i := 10) (v := undef) rfl (by kernel_rfl) (by kernel_rfl) (by kernel_rfl) (fun _ _ _ h => h) (Or.inr ⟨by rfl, rfl⟩) (by assumption) ?_
  simp only [Act.put, List.getElem_toArray, List.getElem_cons_succ, List.getElem_cons_zero, List.setIfInBounds_toArray, List.set_cons_zero, List.set_cons_succ]
  refine wpAnyH_take (i := 11) (v := undef) rfl (by kernel_rfl) (by kernel_rfl) (by kernel_rfl) (fun _ _ _ h => h) (Or.inr ⟨by rfl, rfl⟩) (by assumption) ?_
  simp only [Act.put, List.getElem_toArray, List.getElem_cons_succ, List.getElem_cons_zero, List.setIfInBounds_toArray, List.set_cons_zero, List.set_cons_succ]
  refine wpAnyH_take (i := 12) (v := undef) rfl (by kernel_rfl) (by kernel_rfl) (by kernel_rfl) (fun _ _ _ h => h) (Or.inr ⟨by rfl, rfl⟩) (by assumption) ?_
  simp only [Act.put, List.getElem_toArray, List.getElem_cons_succ, List.getElem_cons_zero, List.setIfInBounds_toArray, List.set_cons_zero, List.set_cons_succ]
  refine wpAnyH_take (i := 13) (v := undef) rfl (by kernel_rfl) (by kernel_rfl) (by kernel_rfl) (fun _ _ _ h => h) (Or.inr ⟨by rfl, rfl⟩) (by assumption) ?_
  simp only [Act.put, List.getElem_toArray, List.getElem_cons_succ, List.getElem_cons_zero, List.setIfInBounds_toArray, List.set_cons_zero, List.set_cons_succ]
  refine wpAnyH_take (i := 14) (v := ?_) rfl (by kernel_rfl) (by kernel_rfl) (by kernel_rfl) (fun _ _ _ h => h) (Or.inl ⟨by rfl, ?_⟩) (by assumption) ?_
  rotate_left
  · (intro w hSw; (try dsimp only at hSw); go_simp; try with_reducible rfl)
  simp only [Act.put, List.getElem_toArray, List.getElem_cons_succ, List.getElem_cons_zero, List.setIfInBounds_toArray, List.set_cons_zero, List.set_cons_succ]
  refine wpAnyH_take (i := 15) (v := ?_) rfl (by kernel_rfl) (by kernel_rfl) (by kernel_rfl) (fun _ _ _ h => h) (Or.inl ⟨by rfl, ?_⟩) (by assumption) ?_
  rotate_left
  · (intro w hSw; (try dsimp only at hSw); go_simp; try with_reducible rfl)
  simp only [Act.put, List.getElem_toArray, List.getElem_cons_succ, List.getElem_cons_zero, List.setIfInBounds_toArray, List.set_cons_zero, List.set_cons_succ]
  refine wpAnyH_take (i := 16) (v := ?_) rfl (by kernel_rfl) (by kernel_rfl) (by kernel_rfl) (fun _ _ _ h => h) (Or.inl ⟨by rfl, ?_⟩) (by assumption) ?_
  rotate_left
  · (intro w hSw; (try dsimp only at hSw); go_simp; try with_reducible rfl)
  simp only [Act.put, List.getElem_toArray, List.getElem_cons_succ, List.getElem_cons_zero, List.setIfInBounds_toArray, List.set_cons_zero, List.set_cons_succ]
  refine wpAnyH_take (i := 17) (v := ?_) rfl (by kernel_rfl) (by kernel_rfl) (by kernel_rfl) (fun _ _ _ h => h) (Or.inl ⟨by rfl, ?_⟩) (by assumption) ?_
  rotate_left
  · (intro w hSw; (try dsimp only at hSw); go_simp; try with_reducible rfl)
  simp only [Act.put, List.getElem_toArray, List.getElem_cons_succ, List.getElem_cons_zero, List.setIfInBounds_toArray, List.set_cons_zero, List.set_cons_succ]
  refine wpAnyH_take (i := 18) (v := ?_) rfl (by kernel_rfl) (by kernel_rfl) (by kernel_rfl) (fun _ _ _ h => h) (Or.inl ⟨by rfl, ?_⟩) (by assumption) ?_
  rotate_left
  · (intro w hSw; (try dsimp only at hSw); go_simp; try with_reducible rfl)
  simp only [Act.put, List.getElem_toArray, List.getElem_cons_succ, List.getElem_cons_zero, List.setIfInBounds_toArray, List.set_cons_zero, List.set_cons_succ]
  refine wpAnyH_take (i := 19) (v := ?_) rfl (by kernel_rfl) (by kernel_rfl) (by kernel_rfl) (fun _ _ _ h => h) (Or.inl ⟨by rfl, ?_⟩) (by assumption) ?_
  rotate_left
  · (intro w hSw; (try dsimp only at hSw); go_simp; try with_reducible rfl)
  simp only [Act.put, List.getElem_toArray, List.getElem_cons_succ, List.getElem_cons_zero, List.setIfInBounds_toArray, List.set_cons_zero, List.set_cons_succ]
  refine wpAnyH_take (i := 20) (v := ?_) rfl (by kernel_rfl) (by kernel_rfl) (by kernel_rfl) (fun _ _ _ h => h) (Or.inl ⟨by rfl, ?_⟩) (by assumption) ?_
  rotate_left
  · (intro w hSw; (try dsimp only at hSw); go_simp; try with_reducible rfl)
  simp only [Act.put, List.getElem_toArray, List.getElem_cons_succ, List.getElem_cons_zero, List.setIfInBounds_toArray, List.set_cons_zero, List.set_cons_succ]
  refine wpAnyH_take (i := 21) (v := ?_) rfl (by kernel_rfl) (by kernel_rfl) (by kernel_rfl) (fun _ _ _ h => h) (Or.inl ⟨by rfl, ?_⟩) (by assumption) ?_
  rotate_left
  · (intro w hSw; (try dsimp only at hSw); go_simp; try with_reducible rfl)
  simp only [Act.put, List.getElem_toArray, List.getElem_cons_succ, List.getElem_cons_zero, List.setIfInBounds_toArray, List.set_cons_zero, List.set_cons_succ]
  refine wpAnyH_ready (rs := [22]) (by kernel_rfl) (by simp) ?_
  refine AllReadyH.cons (o := _) rfl (fun K hK => ?_) AllReadyH.nil
  clear hHeld
  go_simp
  refine (kind_calls _ .none _ (IsV.none (ok := fun _ => True))).mono ?_
  rintro e W25 ⟨rfl, hB⟩
  replace HA := Lib.hid (HA.out.below hB)
  replace HB := Lib.hid (HB.out.trans (hB.mono HB.out.size))
  replace HI := Lib.hid (HI.out.grow hB)
  replace HV := Lib.hid (HV.out.below hB)
  replace HT := Lib.hid (fun j hj => keep_below hB _ _ (HT.out j hj))
  replace HVA := Lib.hid (HVA.out.below hB)
  replace HBR := Lib.hid (HBR.out.grow hB)
  replace HVB := Lib.hid (HVB.out.below hB)
  replace HOR := Lib.hid (HOR.out.grow hB)
  replace HDR := Lib.hid (HDR.out.grow hB)
  replace HVD := Lib.hid (HVD.out.below hB)
  replace HNP := Lib.hid (HNP.out.grow hB)
  replace HVN := Lib.hid (HVN.out.below hB)
  rw [show VV.kind .none = 0 from rfl]
  clear hB
  try go_simp
  refine hK.out _ _ ?_ (fun hHeld => ?_)
  · exact ⟨HA.out.2.1, HA.out.2.2.1, HA.out.2.2.2.1, HVA.out.2.1, HVA.out.2.2.1, HVB.out.2.1, HVB.out.2.2.1, HVD.out.2.1, HVD.out.2.2.1, HVN.out.2.1, HVN.out.2.2.1, HVN.out.2.2.2.1⟩
  clear hK K
  refine wpAnyH_take (i := 23) (v := ?_) rfl (by kernel_rfl) (by kernel_rfl) (by kernel_rfl) (fun _ _ _ h => h) (Or.inl ⟨by rfl, ?_⟩) (by assumption) ?_
  rotate_left
  · (intro w hSw; (try dsimp only at hSw); go_simp; try with_reducible rfl)
  simp only [Act.put, List.getElem_toArray, List.getElem_cons_succ, List.getElem_cons_zero, List.setIfInBounds_toArray, List.set_cons_zero, List.set_cons_succ]
  refine wpAnyH_take (i := 24) (v := ?_) rfl (by kernel_rfl) (by kernel_rfl) (by kernel_rfl) (fun _ _ _ h => h) (Or.inl ⟨by rfl, ?_⟩) (by assumption) ?_
  rotate_left
  · (intro w hSw; (try dsimp only at hSw); go_simp; try with_reducible rfl)
  simp only [Act.put, List.getElem_toArray, List.getElem_cons_succ, List.getElem_cons_zero, List.setIfInBounds_toArray, List.set_cons_zero, List.set_cons_succ]
  refine wpAnyH_take (i := 25) (v := ?_) rfl (by kernel_rfl) (by kernel_rfl) (by kernel_rfl) (fun _ _ _ h => h) (Or.inl ⟨by rfl, ?_⟩) (by assumption) ?_
  rotate_left
  · (intro w hSw; (try dsimp only at hSw); go_simp; try with_reducible rfl)
  simp only [Act.put, List.getElem_toArray, List.getElem_cons_succ, List.getElem_cons_zero, List.setIfInBounds_toArray, List.set_cons_zero, List.set_cons_succ]
  refine wpAnyH_done (by kernel_rfl) ?_ _
  clear hHeld
  clear hcne
  have cHA0 := HA.out.2.1
  have cHA1 := HA.out.2.2.1
  have cHA2 := HA.out.2.2.2.1
  have cHVB0 := HVB.out.2.1
  have cHVB1 := HVB.out.2.2.1
  have cHVD0 := HVD.out.2.1
  have cHVD1 := HVD.out.2.2.1
  go_wp2_with fail
  have HGC := Lib.hid (arrP_good 40 (charP c) char_chk)
  have HPC := Lib.hid (show plA 40 (arrP 40 (charP c)) = charP c by rw [plA_arrP 40 _ char_chk, char_tidy])
  have HNC := Lib.hid (show nice 40 (charP c) by have := nice_tidy 40 (charP c) char_chk; rwa [char_tidy] at this)
  have HCB := Lib.hid (box_chk HCP.out)
  have HGB := Lib.hid (arrP_good 41 (boxP p) HCB.out)
  have HPB := Lib.hid (show plA 41 (arrP 41 (boxP p)) = boxP (tidyP 40 p) by rw [plA_arrP 41 _ HCB.out, box_tidy])
  have HNB := Lib.hid (show nice 41 (boxP (tidyP 40 p)) by have := nice_tidy 41 (boxP p) HCB.out; rwa [box_tidy] at this)
  obtain ⟨W26, hWD⟩ : ∃ xw9, W25.drew = xw9 := ⟨_, rfl⟩
  have hB : Below W25.heap.size W25 W26 := by rw [← hWD]; exact Below.drewN' (Below.refl _ _) 1
  clear cHA0 cHA1 cHA2 cHVB0 cHVB1 cHVD0 cHVD1
  replace HA := Lib.hid (HA.out.below hB)
  replace HB := Lib.hid (HB.out.trans (hB.mono HB.out.size))
  replace HI := Lib.hid (HI.out.grow hB)
  replace HV := Lib.hid (HV.out.below hB)
  replace HT := Lib.hid (fun j hj => keep_below hB _ _ (HT.out j hj))
  replace HBR := Lib.hid (HBR.out.grow hB)
  replace HVB := Lib.hid (HVB.out.below hB)
  replace HOR := Lib.hid (HOR.out.grow hB)
  replace HDR := Lib.hid (HDR.out.grow hB)
  replace HVD := Lib.hid (HVD.out.below hB)
  clear hB
  refine wp_region_held_drew (S := fun w' => w'.cell? ⟨w.heap.size, 0, none⟩ = some (.slice so p.s.length sc) ∧ w'.cell? ⟨w.heap.size, 1, none⟩ = some (.slice io p.l.length ic) ∧ w'.cell? ⟨w.heap.size, 2, none⟩ = some (.int .i64 p.f) ∧ w'.cell? ⟨W16.heap.size, 0, none⟩ = some (.slice so2 0 sc2) ∧ w'.cell? ⟨W16.heap.size, 1, none⟩ = some (ub) ∧ w'.cell? ⟨W19.heap.size, 0, none⟩ = some (.slice none 0 0) ∧ w'.cell? ⟨W19.heap.size, 1, none⟩ = some (ud)) (by kernel_rfl) (by rw [hWD]; exact ⟨HA.out.2.1, HA.out.2.2.1, HA.out.2.2.2.1, HVB.out.2.1, HVB.out.2.2.1, HVD.out.2.1, HVD.out.2.2.1⟩) (fun hHeld => ?_)
  rw [hWD] at hHeld ⊢
  clear hWD
  refine wpAnyH_take (i := 0) (v := ?_) rfl (by kernel_rfl) (by kernel_rfl) (by kernel_rfl) (fun _ _ _ h => h) (Or.inl ⟨by rfl, ?_⟩) (by assumption) ?_
  rotate_left
  · (intro w hSw; (try dsimp only at hSw); go_simp; try with_reducible rfl)
  simp only [Act.put, List.getElem_toArray, List.getElem_cons_zero, List.setIfInBounds_toArray, List.set_cons_zero, List.set_cons_succ]
  refine wpAnyH_take (i := 2) (v := ?_) rfl (by kernel_rfl) (by kernel_rfl) (by kernel_rfl) (fun _ _ _ h => h) (Or.inl ⟨by rfl, ?_⟩) (by assumption) ?_
  rotate_left
  · (intro w hSw; (try dsimp only at hSw); go_simp; try with_reducible rfl)
  simp only [Act.put, List.getElem_toArray, List.getElem_cons_succ, List.getElem_cons_zero, List.setIfInBounds_toArray, List.set_cons_zero, List.set_cons_succ]
  refine wpAnyH_take (i := 3) (v := ?_) rfl (by kernel_rfl) (by kernel_rfl) (by kernel_rfl) (fun _ _ _ h => h) (Or.inl ⟨by rfl, ?_⟩) (by assumption) ?_
  rotate_left
  · (intro w hSw; (try dsimp only at hSw); go_simp; try with_reducible rfl)
  simp only [Act.put, List.getElem_toArray, List.getElem_cons_succ, List.getElem_cons_zero, List.setIfInBounds_toArray, List.set_cons_zero, List.set_cons_succ]
  refine wpAnyH_ready (rs := [1, 4]) (by kernel_rfl) (by simp) ?_
  refine AllReadyH.cons (o := _) rfl (fun K hK => ?_) ?_
  · clear hHeld
    go_simp
    refine (plain_calls_at 40 _ (arrP 40 (charP c)) _ _ _ (gA_dA HGC.out) HBR.out).mono ?_
    rintro e W27 ⟨up, rfl, hup, hB⟩
    replace HA := Lib.hid (HA.out.below hB)
    replace HB := Lib.hid (HB.out.trans (hB.mono HB.out.size))
    replace HI := Lib.hid (HI.out.grow hB)
    replace HV := Lib.hid (HV.out.below hB)
    replace HT := Lib.hid (fun j hj => keep_below hB _ _ (HT.out j hj))
    replace HBR := Lib.hid (HBR.out.grow hB)
    replace HVB := Lib.hid (HVB.out.below hB)
    replace HOR := Lib.hid (HOR.out.grow hB)
    replace HDR := Lib.hid (HDR.out.grow hB)
    replace HVD := Lib.hid (HVD.out.below hB)
    rw [HPC.out] at hup
    have HUP := Lib.hid hup
    obtain ⟨uso, usc, uio, uic, rfl, _⟩ := hup.opened
    clear hup
    clear hB
    refine hK.out _ _ ?_ (fun hHeld => ?_)
    · exact ⟨HA.out.2.1, HA.out.2.2.1, HA.out.2.2.2.1, HVB.out.2.1, HVB.out.2.2.1, HVD.out.2.1, HVD.out.2.2.1⟩
    clear hK K
    refine wpAnyH_ready (rs := [4]) (by kernel_rfl) (by simp) ?_
    refine AllReadyH.cons (o := _) rfl (fun K hK => ?_) ?_
    · clear hHeld
      go_simp
      obtain ⟨W28, hWn⟩ : ∃ xw9, W27.alloc (.cells #[.int .i64 1, .float .f64 0, .int .i32 c, .slice none 0 0] 47) = xw9 := ⟨_, rfl⟩
      have hB : Below W27.heap.size W27 W28 := by rw [← hWn]; exact below_new _ _
      have hNB : Its W28 (fun _ => True) (.slice (some ⟨W27.heap.size, 0, none⟩) 1 1) [(1, 0, c, [])] := by rw [← hWn]; exact (Its.one (ok := fun _ => True) ((1, 0, c, []) : PI) (IsB.nil _ _)).wide (fun _ _ _ => trivial)
      rw [hWn]
      clear hWn
      obtain ⟨b1, hnm⟩ : ∃ x, W27.heap.size = x := ⟨_, rfl⟩
      rw [hnm] at hNB ⊢
      replace HA := Lib.hid (HA.out.below hB)
      replace HB := Lib.hid (HB.out.trans (hB.mono HB.out.size))
      replace HI := Lib.hid (HI.out.grow hB)
      replace HV := Lib.hid (HV.out.below hB)
      replace HT := Lib.hid (fun j hj => keep_below hB _ _ (HT.out j hj))
      replace HBR := Lib.hid (HBR.out.grow hB)
      replace HVB := Lib.hid (HVB.out.below hB)
      replace HOR := Lib.hid (HOR.out.grow hB)
      replace HDR := Lib.hid (HDR.out.grow hB)
      replace HVD := Lib.hid (HVD.out.below hB)
      replace HUP := Lib.hid (HUP.out.grow hB)
      have HI1 := Lib.hid hNB
      clear hNB hB hnm
      refine hK.out _ _ ?_ (fun hHeld => ?_)
      · exact ⟨HA.out.2.1, HA.out.2.2.1, HA.out.2.2.2.1, HVB.out.2.1, HVB.out.2.2.1, HVD.out.2.1, HVD.out.2.2.1⟩
      clear hK K
      refine wpAnyH_take (i := 5) (v := ?_) rfl (by kernel_rfl) (by kernel_rfl) (by kernel_rfl) (fun _ _ _ h => h) (Or.inl ⟨by rfl, ?_⟩) (by assumption) ?_
      rotate_left
      · (intro w hSw; (try dsimp only at hSw); go_simp; try with_reducible rfl)
      simp only [Act.put, List.getElem_toArray, List.getElem_cons_succ, List.getElem_cons_zero, List.setIfInBounds_toArray, List.set_cons_zero, List.set_cons_succ]
      refine wpAnyH_ready (rs := [6]) (by kernel_rfl) (by simp) ?_
      refine AllReadyH.cons (o := _) rfl (fun K hK => ?_) ?_
      · clear hHeld
        go_simp
        refine (psame_calls 40 _ _ (charP c) (charP c) _ _ 40 _ HNC.out HNC.out HUP.out (IsP.of (Slc.nil _ _) HI1.out)).mono ?_
        rintro e W29 ⟨rfl, hB⟩
        replace HA := Lib.hid (HA.out.below hB)
        replace HB := Lib.hid (HB.out.trans (hB.mono HB.out.size))
        replace HI := Lib.hid (HI.out.grow hB)
        replace HV := Lib.hid (HV.out.below hB)
        replace HT := Lib.hid (fun j hj => keep_below hB _ _ (HT.out j hj))
        replace HBR := Lib.hid (HBR.out.grow hB)
        replace HVB := Lib.hid (HVB.out.below hB)
        replace HOR := Lib.hid (HOR.out.grow hB)
        replace HDR := Lib.hid (HDR.out.grow hB)
        replace HVD := Lib.hid (HVD.out.below hB)
        replace HUP := Lib.hid (HUP.out.grow hB)
        replace HI1 := Lib.hid (HI1.out.grow hB)
        rw [pq_yes rfl]
        clear HUP HI1
        clear hB
        refine hK.out _ _ ?_ (fun hHeld => ?_)
        · exact ⟨HA.out.2.1, HA.out.2.2.1, HA.out.2.2.2.1, HVB.out.2.1, HVB.out.2.2.1, HVD.out.2.1, HVD.out.2.2.1⟩
        clear hK K
        refine wpAnyH_take (i := 7) (v := ?_) rfl (by kernel_rfl) (by kernel_rfl) (by kernel_rfl) (fun _ _ _ h => h) (Or.inl ⟨by rfl, ?_⟩) (by assumption) ?_
        rotate_left
        · (intro w hSw; (try dsimp only at hSw); go_simp; try with_reducible rfl)
        simp only [Act.put, List.getElem_toArray, List.getElem_cons_succ, List.getElem_cons_zero, List.setIfInBounds_toArray, List.set_cons_zero, List.set_cons_succ]
        refine wpAnyH_take (i := 8) (v := ?_) rfl (by kernel_rfl) (by kernel_rfl) (by kernel_rfl) (fun _ _ _ h => h) (Or.inl ⟨by rfl, ?_⟩) (by assumption) ?_
        rotate_left
        · (intro w hSw; (try dsimp only at hSw); go_simp; try with_reducible rfl)
        simp only [Act.put, List.getElem_toArray, List.getElem_cons_succ, List.getElem_cons_zero, List.setIfInBounds_toArray, List.set_cons_zero, List.set_cons_succ]
        refine wpAnyH_take (i := 9) (v := ?_) rfl (by kernel_rfl) (by kernel_rfl) (by kernel_rfl) (fun _ _ _ h => h) (Or.inl ⟨by rfl, ?_⟩) (by assumption) ?_
        rotate_left
        · (intro w hSw; (try dsimp only at hSw); go_simp; try with_reducible rfl)
        simp only [Act.put, List.getElem_toArray, List.getElem_cons_succ, List.getElem_cons_zero, List.setIfInBounds_toArray, List.set_cons_zero, List.set_cons_succ]
        refine wpAnyH_take (i := 11) (v := ?_) rfl (by kernel_rfl) (by kernel_rfl) (by kernel_rfl) (fun _ _ _ h => h) (Or.inl ⟨by rfl, ?_⟩) (by assumption) ?_
        rotate_left
        · (intro w hSw; (try dsimp only at hSw); go_simp; try with_reducible rfl)
        simp only [Act.put, List.getElem_toArray, List.getElem_cons_succ, List.getElem_cons_zero, List.setIfInBounds_toArray, List.set_cons_zero, List.set_cons_succ]
        refine wpAnyH_ready (rs := [10]) (by kernel_rfl) (by simp) ?_
        refine AllReadyH.cons (o := _) rfl (fun K hK => ?_) ?_
        · clear hHeld
          go_simp
          refine (plain_calls_at 41 _ (arrP 41 (boxP p)) _ _ _ (gA_dA HGB.out) HDR.out).mono ?_
          rintro e W30 ⟨uq, rfl, huq, hB⟩
          replace HA := Lib.hid (HA.out.below hB)
          replace HB := Lib.hid (HB.out.trans (hB.mono HB.out.size))
          replace HI := Lib.hid (HI.out.grow hB)
          replace HV := Lib.hid (HV.out.below hB)
          replace HT := Lib.hid (fun j hj => keep_below hB _ _ (HT.out j hj))
          replace HBR := Lib.hid (HBR.out.grow hB)
          replace HVB := Lib.hid (HVB.out.below hB)
          replace HOR := Lib.hid (HOR.out.grow hB)
          replace HDR := Lib.hid (HDR.out.grow hB)
          replace HVD := Lib.hid (HVD.out.below hB)
          rw [HPB.out] at huq
          have HUQ := Lib.hid huq
          obtain ⟨qso, qsc, qio, qic, rfl, _⟩ := huq.opened
          clear huq
          clear hB
          refine hK.out _ _ ?_ (fun hHeld => ?_)
          · exact ⟨HA.out.2.1, HA.out.2.2.1, HA.out.2.2.2.1, HVB.out.2.1, HVB.out.2.2.1, HVD.out.2.1, HVD.out.2.2.1⟩
          clear hK K
          refine wpAnyH_ready (rs := [12]) (by kernel_rfl) (by simp) ?_
          refine AllReadyH.cons (o := _) rfl (fun K hK => ?_) ?_
          · clear hHeld
            go_simp
            refine (ptidy_calls 40 _ p _ _ HCP.out HI.out).mono ?_
            rintro e W31 ⟨ut, rfl, hut, hB⟩
            replace HA := Lib.hid (HA.out.below hB)
            replace HB := Lib.hid (HB.out.trans (hB.mono HB.out.size))
            replace HI := Lib.hid (HI.out.grow hB)
            replace HV := Lib.hid (HV.out.below hB)
            replace HT := Lib.hid (fun j hj => keep_below hB _ _ (HT.out j hj))
            replace HBR := Lib.hid (HBR.out.grow hB)
            replace HVB := Lib.hid (HVB.out.below hB)
            replace HOR := Lib.hid (HOR.out.grow hB)
            replace HDR := Lib.hid (HDR.out.grow hB)
            replace HVD := Lib.hid (HVD.out.below hB)
            replace HUQ := Lib.hid (HUQ.out.grow hB)
            have HUT := Lib.hid (hut.wide (ok' := fun _ => True) (fun _ _ _ => trivial))
            obtain ⟨tso, tsc, tio, tic, rfl, _⟩ := hut.opened
            clear hut
            clear hB
            refine hK.out _ _ ?_ (fun hHeld => ?_)
            · exact ⟨HA.out.2.1, HA.out.2.2.1, HA.out.2.2.2.1, HVB.out.2.1, HVB.out.2.2.1, HVD.out.2.1, HVD.out.2.2.1⟩
            clear hK K
            refine wpAnyH_ready (rs := [13]) (by kernel_rfl) (by simp) ?_
            refine AllReadyH.cons (o := _) rfl (fun K hK => ?_) ?_
            · clear hHeld
              go_simp
              obtain ⟨W32, hWn⟩ : ∃ xw9, W31.alloc (.cells #[.slice tso (tidyP 40 p).s.length tsc, .slice tio (tidyP 40 p).l.length tic, .int .i64 (tidyP 40 p).f] 27) = xw9 := ⟨_, rfl⟩
              have hB : Below W31.heap.size W31 W32 := by rw [← hWn]; exact below_new _ _
              have hNB : IsB W32 (fun _ => True) (.slice (some ⟨W31.heap.size, 0, none⟩) 1 1) [tidyP 40 p] := by rw [← hWn]; exact (IsB.one (ok := fun _ => True) HUT.out _).wide (fun _ _ _ => trivial)
              rw [hWn]
              clear hWn
              obtain ⟨b2, hnm⟩ : ∃ x, W31.heap.size = x := ⟨_, rfl⟩
              rw [hnm] at hNB ⊢
              replace HA := Lib.hid (HA.out.below hB)
              replace HB := Lib.hid (HB.out.trans (hB.mono HB.out.size))
              replace HI := Lib.hid (HI.out.grow hB)
              replace HV := Lib.hid (HV.out.below hB)
              replace HT := Lib.hid (fun j hj => keep_below hB _ _ (HT.out j hj))
              replace HBR := Lib.hid (HBR.out.grow hB)
              replace HVB := Lib.hid (HVB.out.below hB)
              replace HOR := Lib.hid (HOR.out.grow hB)
              replace HDR := Lib.hid (HDR.out.grow hB)
              replace HVD := Lib.hid (HVD.out.below hB)
              replace HUQ := Lib.hid (HUQ.out.grow hB)
              replace HUT := Lib.hid (HUT.out.grow hB)
              have HBX := Lib.hid hNB
              clear hNB hB hnm
              refine hK.out _ _ ?_ (fun hHeld => ?_)
              · exact ⟨HA.out.2.1, HA.out.2.2.1, HA.out.2.2.2.1, HVB.out.2.1, HVB.out.2.2.1, HVD.out.2.1, HVD.out.2.2.1⟩
              clear hK K
              refine wpAnyH_take (i := 14) (v := ?_) rfl (by kernel_rfl) (by kernel_rfl) (by kernel_rfl) (fun _ _ _ h => h) (Or.inl ⟨by rfl, ?_⟩) (by assumption) ?_
              rotate_left
              · (intro w hSw; (try dsimp only at hSw); go_simp; try with_reducible rfl)
              simp only [Act.put, List.getElem_toArray, List.getElem_cons_succ, List.getElem_cons_zero, List.setIfInBounds_toArray, List.set_cons_zero, List.set_cons_succ]
              refine wpAnyH_ready (rs := [15]) (by kernel_rfl) (by simp) ?_
              refine AllReadyH.cons (o := _) rfl (fun K hK => ?_) ?_
              · clear hHeld
                go_simp
                obtain ⟨W33, hWn⟩ : ∃ xw9, W32.alloc (.cells #[.int .i64 2, .float .f64 0, .int .i32 0, .slice (some ⟨b2, 0, none⟩) 1 1] 47) = xw9 := ⟨_, rfl⟩
                have hB : Below W32.heap.size W32 W33 := by rw [← hWn]; exact below_new _ _
                have hNB : Its W33 (fun _ => True) (.slice (some ⟨W32.heap.size, 0, none⟩) 1 1) [(2, 0, 0, [tidyP 40 p])] := by rw [← hWn]; exact (Its.one (ok := fun _ => True) ((2, 0, 0, [tidyP 40 p]) : PI) HBX.out).wide (fun _ _ _ => trivial)
                rw [hWn]
                clear hWn
                obtain ⟨b3, hnm⟩ : ∃ x, W32.heap.size = x := ⟨_, rfl⟩
                rw [hnm] at hNB ⊢
                replace HA := Lib.hid (HA.out.below hB)
                replace HB := Lib.hid (HB.out.trans (hB.mono HB.out.size))
                replace HI := Lib.hid (HI.out.grow hB)
                replace HV := Lib.hid (HV.out.below hB)
                replace HT := Lib.hid (fun j hj => keep_below hB _ _ (HT.out j hj))
                replace HBR := Lib.hid (HBR.out.grow hB)
                replace HVB := Lib.hid (HVB.out.below hB)
                replace HOR := Lib.hid (HOR.out.grow hB)
                replace HDR := Lib.hid (HDR.out.grow hB)
                replace HVD := Lib.hid (HVD.out.below hB)
                replace HUQ := Lib.hid (HUQ.out.grow hB)
                replace HUT := Lib.hid (HUT.out.grow hB)
                replace HBX := Lib.hid (HBX.out.grow hB)
                have HI2 := Lib.hid hNB
                clear hNB hB hnm
                refine hK.out _ _ ?_ (fun hHeld => ?_)
                · exact ⟨HA.out.2.1, HA.out.2.2.1, HA.out.2.2.2.1, HVB.out.2.1, HVB.out.2.2.1, HVD.out.2.1, HVD.out.2.2.1⟩
                clear hK K
                refine wpAnyH_take (i := 16) (v := ?_) rfl (by kernel_rfl) (by kernel_rfl) (by kernel_rfl) (fun _ _ _ h => h) (Or.inl ⟨by rfl, ?_⟩) (by assumption) ?_
                rotate_left
                · (intro w hSw; (try dsimp only at hSw); go_simp; try with_reducible rfl)
                simp only [Act.put, List.getElem_toArray, List.getElem_cons_succ, List.getElem_cons_zero, List.setIfInBounds_toArray, List.set_cons_zero, List.set_cons_succ]
                refine wpAnyH_ready (rs := [17]) (by kernel_rfl) (by simp) ?_
                refine AllReadyH.cons (o := _) rfl (fun K hK => ?_) ?_
                · clear hHeld
                  go_simp
                  refine (psame_calls 41 _ _ (boxP (tidyP 40 p)) (boxP (tidyP 40 p)) _ _ 41 _ HNB.out HNB.out HUQ.out (IsP.of (Slc.nil _ _) HI2.out)).mono ?_
                  rintro e W34 ⟨rfl, hB⟩
                  replace HA := Lib.hid (HA.out.below hB)
                  replace HB := Lib.hid (HB.out.trans (hB.mono HB.out.size))
                  replace HI := Lib.hid (HI.out.grow hB)
                  replace HV := Lib.hid (HV.out.below hB)
                  replace HT := Lib.hid (fun j hj => keep_below hB _ _ (HT.out j hj))
                  replace HBR := Lib.hid (HBR.out.grow hB)
                  replace HVB := Lib.hid (HVB.out.below hB)
                  replace HOR := Lib.hid (HOR.out.grow hB)
                  replace HDR := Lib.hid (HDR.out.grow hB)
                  replace HVD := Lib.hid (HVD.out.below hB)
                  replace HUQ := Lib.hid (HUQ.out.grow hB)
                  replace HUT := Lib.hid (HUT.out.grow hB)
                  replace HBX := Lib.hid (HBX.out.grow hB)
                  replace HI2 := Lib.hid (HI2.out.grow hB)
                  rw [pq_yes rfl]
                  clear hB
                  refine hK.out _ _ ?_ (fun hHeld => ?_)
                  · exact ⟨HA.out.2.1, HA.out.2.2.1, HA.out.2.2.2.1, HVB.out.2.1, HVB.out.2.2.1, HVD.out.2.1, HVD.out.2.2.1⟩
                  clear hK K
                  refine wpAnyH_take (i := 18) (v := ?_) rfl (by kernel_rfl) (by kernel_rfl) (by kernel_rfl) (fun _ _ _ h => h) (Or.inl ⟨by rfl, ?_⟩) (by assumption) ?_
                  rotate_left
                  · (intro w hSw; (try dsimp only at hSw); go_simp; try with_reducible rfl)
                  simp only [Act.put, List.getElem_toArray, List.getElem_cons_succ, List.getElem_cons_zero, List.setIfInBounds_toArray, List.set_cons_zero, List.set_cons_succ]
                  refine wpAnyH_take (i := 19) (v := ?_) rfl (by kernel_rfl) (by kernel_rfl) (by kernel_rfl) (fun _ _ _ h => h) (Or.inl ⟨by rfl, ?_⟩) (by assumption) ?_
                  rotate_left
                  · (intro w hSw; (try dsimp only at hSw); go_simp; try with_reducible rfl)
                  simp only [Act.put, List.getElem_toArray, List.getElem_cons_succ, List.getElem_cons_zero, List.setIfInBounds_toArray, List.set_cons_zero, List.set_cons_succ]
                  refine wpAnyH_done (by kernel_rfl) ?_ _
                  clear hHeld
                  have cHA0 := HA.out.2.1
                  have cHA1 := HA.out.2.2.1
                  have cHA2 := HA.out.2.2.2.1
                  go_wp2_with fail
                  by_cases hfl : ∀ y ∈ l, Fnt y
                  · have HFL := Lib.hid hfl
                    clear hfl
                    refine (vfloats_yes _ l _ HV.out (by have := HLM.out; omega) HFL.out).mono ?_
                    rintro e W35 ⟨uv, rfl, hUV, hB⟩
                    clear cHA0 cHA1 cHA2
                    replace HA := Lib.hid (HA.out.below hB)
                    replace HB := Lib.hid (HB.out.trans (hB.mono HB.out.size))
                    replace HV := Lib.hid (HV.out.below hB)
                    replace HT := Lib.hid (fun j hj => keep_below hB _ _ (HT.out j hj))
                    replace HOR := Lib.hid (HOR.out.grow hB)
                    have HUV := Lib.hid hUV
                    have hsv := hUV.store
                    clear hUV
                    clear hB
                    have cHA0 := HA.out.2.1
                    have cHA1 := HA.out.2.2.1
                    have cHA2 := HA.out.2.2.2.1
                    go_wp2_with fail
                    obtain ⟨W36, hWn⟩ : ∃ xw9, W35.alloc (.cells #[uv] 32) = xw9 := ⟨_, rfl⟩
                    have hB : Below W35.heap.size W35 W36 := by rw [← hWn]; exact below_new _ _
                    have hNB : At1 W36 W35.heap.size (uv) := by rw [← hWn]; exact At1.new _ _ _
                    rw [hWn]
                    clear hWn
                    obtain ⟨bv, hnm⟩ : ∃ x, W35.heap.size = x := ⟨_, rfl⟩
                    rw [hnm] at hNB ⊢
                    clear cHA0 cHA1 cHA2
                    replace HA := Lib.hid (HA.out.below hB)
                    replace HB := Lib.hid (HB.out.trans (hB.mono HB.out.size))
                    replace HV := Lib.hid (HV.out.below hB)
                    replace HT := Lib.hid (fun j hj => keep_below hB _ _ (HT.out j hj))
                    replace HOR := Lib.hid (HOR.out.grow hB)
                    replace HUV := Lib.hid (HUV.out.grow hB)
                    have HVW := Lib.hid hNB
                    clear hNB hB hnm
                    have cHA0 := HA.out.2.1
                    have cHA1 := HA.out.2.2.1
                    have cHA2 := HA.out.2.2.2.1
                    have cHVW0 := HVW.out.2.1
                    have HFK := Lib.hid (show (VV.floats (l.map ze)).ok by have := HLM.out; simp [VV.ok]; omega)
                    have HFM := Lib.hid (show (VV.floats (l.map ze)).nm by
                      intro y hy
                      simp only [List.mem_map] at hy
                      obtain ⟨z, hz, rfl⟩ := hy
                      exact ze_num (HFL.out z hz))
                    have HQC := Lib.hid (show chk 40 (numsP l) = 0 from (nums_chk (by have := HLM.out; omega)).2 HFL.out)
                    have HGQ := Lib.hid (arrP_good 40 _ HQC.out)
                    have HPQ := Lib.hid (plA_arrP 40 _ HQC.out)
                    have HNQ := Lib.hid (nice_tidy 40 _ HQC.out)
                    refine (valList_calls _ (.floats (l.map ze)) _ HUV.out HFK.out HFM.out HT.out).mono ?_
                    rintro e W37 ⟨so4, sc4, ua4, rfl, hLA, hB⟩
                    clear cHA0 cHA1 cHA2 cHVW0
                    replace HA := Lib.hid (HA.out.below hB)
                    replace HB := Lib.hid (HB.out.trans (hB.mono HB.out.size))
                    replace HV := Lib.hid (HV.out.below hB)
                    replace HT := Lib.hid (fun j hj => keep_below hB _ _ (HT.out j hj))
                    replace HOR := Lib.hid (HOR.out.grow hB)
                    replace HUV := Lib.hid (HUV.out.grow hB)
                    replace HVW := Lib.hid (HVW.out.below hB)
                    rw [show (VV.floats (l.map ze)).len = l.length from by simp [VV.len]] at hLA
                    have HLA := Lib.hid (show IsArr W37 (fun _ => True) (.slice so4 1 sc4) ua4 (arrP 40 (numsP l)) by rw [nums_arr]; exact ⟨hLA.1.keep (Kept.refl _ _) (fun _ _ _ => trivial), hLA.2.wide (fun _ _ _ => trivial)⟩)
                    clear hLA
                    clear hB
                    have cHA0 := HA.out.2.1
                    have cHA1 := HA.out.2.2.1
                    have cHA2 := HA.out.2.2.2.1
                    have cHVW0 := HVW.out.2.1
                    go_wp2_with fail
                    refine (plain_calls_at 40 _ (arrP 40 (numsP l)) _ _ _ (gA_dA HGQ.out) HLA.out).mono ?_
                    rintro e W38 ⟨up4, rfl, hup, hB⟩
                    clear cHA0 cHA1 cHA2 cHVW0
                    replace HA := Lib.hid (HA.out.below hB)
                    replace HB := Lib.hid (HB.out.trans (hB.mono HB.out.size))
                    replace HV := Lib.hid (HV.out.below hB)
                    replace HT := Lib.hid (fun j hj => keep_below hB _ _ (HT.out j hj))
                    replace HOR := Lib.hid (HOR.out.grow hB)
                    replace HUV := Lib.hid (HUV.out.grow hB)
                    replace HVW := Lib.hid (HVW.out.below hB)
                    replace HLA := Lib.hid (HLA.out.grow hB)
                    rw [HPQ.out] at hup
                    have HUP := Lib.hid hup
                    obtain ⟨p4, q4, r4, t4, rfl, _⟩ := hup.opened
                    clear hup
                    clear hB
                    have cHA0 := HA.out.2.1
                    have cHA1 := HA.out.2.2.1
                    have cHA2 := HA.out.2.2.2.1
                    have cHVW0 := HVW.out.2.1
                    go_wp2_with fail
                    refine (rNums_calls _ l _ HV.out (by have := HLM.out; omega)).mono ?_
                    rintro e W39 ⟨un4, rfl, hun, hB⟩
                    clear cHA0 cHA1 cHA2 cHVW0
                    replace HA := Lib.hid (HA.out.below hB)
                    replace HB := Lib.hid (HB.out.trans (hB.mono HB.out.size))
                    replace HV := Lib.hid (HV.out.below hB)
                    replace HT := Lib.hid (fun j hj => keep_below hB _ _ (HT.out j hj))
                    replace HOR := Lib.hid (HOR.out.grow hB)
                    replace HUV := Lib.hid (HUV.out.grow hB)
                    replace HVW := Lib.hid (HVW.out.below hB)
                    replace HLA := Lib.hid (HLA.out.grow hB)
                    replace HUP := Lib.hid (HUP.out.grow hB)
                    have HUN := Lib.hid hun
                    obtain ⟨p5, q5, r5, t5, rfl, _⟩ := hun.opened
                    clear hun
                    clear hB
                    have cHA0 := HA.out.2.1
                    have cHA1 := HA.out.2.2.1
                    have cHA2 := HA.out.2.2.2.1
                    have cHVW0 := HVW.out.2.1
                    go_wp2_with fail
                    refine (ptidy_calls 40 _ (numsP l) _ _ HQC.out HUN.out).mono ?_
                    rintro e W40 ⟨ut4, rfl, hut, hB⟩
                    clear cHA0 cHA1 cHA2 cHVW0
                    replace HA := Lib.hid (HA.out.below hB)
                    replace HB := Lib.hid (HB.out.trans (hB.mono HB.out.size))
                    replace HV := Lib.hid (HV.out.below hB)
                    replace HT := Lib.hid (fun j hj => keep_below hB _ _ (HT.out j hj))
                    replace HOR := Lib.hid (HOR.out.grow hB)
                    replace HUV := Lib.hid (HUV.out.grow hB)
                    replace HVW := Lib.hid (HVW.out.below hB)
                    replace HLA := Lib.hid (HLA.out.grow hB)
                    replace HUP := Lib.hid (HUP.out.grow hB)
                    replace HUN := Lib.hid (HUN.out.grow hB)
                    have HUT := Lib.hid hut
                    obtain ⟨p6, q6, r6, t6, rfl, _⟩ := hut.opened
                    clear hut
                    clear hB
                    have cHA0 := HA.out.2.1
                    have cHA1 := HA.out.2.2.1
                    have cHA2 := HA.out.2.2.2.1
                    have cHVW0 := HVW.out.2.1
                    go_wp2_with fail
                    refine (psame_calls 40 _ _ (tidyP 40 (numsP l)) (tidyP 40 (numsP l)) _ _ 40 _ HNQ.out HNQ.out HUP.out HUT.out).mono ?_
                    rintro e W41 ⟨rfl, hB⟩
                    clear cHA0 cHA1 cHA2 cHVW0
                    replace HA := Lib.hid (HA.out.below hB)
                    replace HB := Lib.hid (HB.out.trans (hB.mono HB.out.size))
                    replace HV := Lib.hid (HV.out.below hB)
                    replace HT := Lib.hid (fun j hj => keep_below hB _ _ (HT.out j hj))
                    replace HOR := Lib.hid (HOR.out.grow hB)
                    replace HUV := Lib.hid (HUV.out.grow hB)
                    replace HVW := Lib.hid (HVW.out.below hB)
                    replace HLA := Lib.hid (HLA.out.grow hB)
                    replace HUP := Lib.hid (HUP.out.grow hB)
                    replace HUN := Lib.hid (HUN.out.grow hB)
                    replace HUT := Lib.hid (HUT.out.grow hB)
                    rw [pq_yes rfl]
                    clear hB
                    have cHA0 := HA.out.2.1
                    have cHA1 := HA.out.2.2.1
                    have cHA2 := HA.out.2.2.2.1
                    have cHVW0 := HVW.out.2.1
                    go_wp2_with fail
                    refine (awake7_calls _ HT.out).mono ?_
                    rintro e W42 ⟨rfl, hB⟩
                    clear cHA0 cHA1 cHA2 cHVW0
                    replace HA := Lib.hid (HA.out.below hB)
                    replace HB := Lib.hid (HB.out.trans (hB.mono HB.out.size))
                    replace HV := Lib.hid (HV.out.below hB)
                    replace HT := Lib.hid (fun j hj => keep_below hB _ _ (HT.out j hj))
                    replace HOR := Lib.hid (HOR.out.grow hB)
                    replace HUV := Lib.hid (HUV.out.grow hB)
                    replace HVW := Lib.hid (HVW.out.below hB)
                    replace HLA := Lib.hid (HLA.out.grow hB)
                    replace HUP := Lib.hid (HUP.out.grow hB)
                    replace HUN := Lib.hid (HUN.out.grow hB)
                    replace HUT := Lib.hid (HUT.out.grow hB)
                    clear hB
                    have cHA0 := HA.out.2.1
                    have cHA1 := HA.out.2.2.1
                    have cHA2 := HA.out.2.2.2.1
                    have cHVW0 := HVW.out.2.1
                    go_wp2_with fail
                    go_ret
                    exact BoolIs.mk rfl HB.out
                  · have HFL := Lib.hid (show ∃ y ∈ l, ¬ Fnt y from Classical.byContradiction fun h => hfl fun y hy => Classical.byContradiction fun h2 => h ⟨y, hy, h2⟩)
                    clear hfl
                    refine (vfloats_no _ l _ HV.out (by have := HLM.out; omega) HLX.out.2 HFL.out).mono ?_
                    rintro e W35 ⟨uv, rfl, hUV, hB⟩
                    clear cHA0 cHA1 cHA2
                    replace HA := Lib.hid (HA.out.below hB)
                    replace HB := Lib.hid (HB.out.trans (hB.mono HB.out.size))
                    replace HV := Lib.hid (HV.out.below hB)
                    replace HT := Lib.hid (fun j hj => keep_below hB _ _ (HT.out j hj))
                    replace HOR := Lib.hid (HOR.out.grow hB)
                    have HUV := Lib.hid hUV
                    have hsv := hUV.store
                    clear hUV
                    clear hB
                    have cHA0 := HA.out.2.1
                    have cHA1 := HA.out.2.2.1
                    have cHA2 := HA.out.2.2.2.1
                    go_wp2_with fail
                    obtain ⟨W36, hWn⟩ : ∃ xw9, W35.alloc (.cells #[uv] 32) = xw9 := ⟨_, rfl⟩
                    have hB : Below W35.heap.size W35 W36 := by rw [← hWn]; exact below_new _ _
                    have hNB : At1 W36 W35.heap.size (uv) := by rw [← hWn]; exact At1.new _ _ _
                    rw [hWn]
                    clear hWn
                    obtain ⟨bv, hnm⟩ : ∃ x, W35.heap.size = x := ⟨_, rfl⟩
                    rw [hnm] at hNB ⊢
                    clear cHA0 cHA1 cHA2
                    replace HA := Lib.hid (HA.out.below hB)
                    replace HB := Lib.hid (HB.out.trans (hB.mono HB.out.size))
                    replace HV := Lib.hid (HV.out.below hB)
                    replace HT := Lib.hid (fun j hj => keep_below hB _ _ (HT.out j hj))
                    replace HOR := Lib.hid (HOR.out.grow hB)
                    have HVW := Lib.hid hNB
                    clear hNB hB hnm
                    have cHA0 := HA.out.2.1
                    have cHA1 := HA.out.2.2.1
                    have cHA2 := HA.out.2.2.2.1
                    have cHVW0 := HVW.out.2.1
                    refine (awake7_calls _ HT.out).mono ?_
                    rintro e W37 ⟨rfl, hB⟩
                    clear cHA0 cHA1 cHA2 cHVW0
                    replace HA := Lib.hid (HA.out.below hB)
                    replace HB := Lib.hid (HB.out.trans (hB.mono HB.out.size))
                    replace HV := Lib.hid (HV.out.below hB)
                    replace HT := Lib.hid (fun j hj => keep_below hB _ _ (HT.out j hj))
                    replace HOR := Lib.hid (HOR.out.grow hB)
                    replace HVW := Lib.hid (HVW.out.below hB)
                    clear hB
                    have cHA0 := HA.out.2.1
                    have cHA1 := HA.out.2.2.1
                    have cHA2 := HA.out.2.2.2.1
                    have cHVW0 := HVW.out.2.1
                    go_wp2_with fail
                    go_ret
                    exact BoolIs.mk rfl HB.out
                exact AllReadyH.nil
              exact AllReadyH.nil
            exact AllReadyH.nil
          exact AllReadyH.nil
        exact AllReadyH.nil
      exact AllReadyH.nil
    exact AllReadyH.nil
  refine AllReadyH.cons (o := _) rfl (fun K hK => ?_) ?_
  · clear hHeld
    go_simp
    obtain ⟨W27, hWn⟩ : ∃ xw9, W26.alloc (.cells #[.int .i64 1, .float .f64 0, .int .i32 c, .slice none 0 0] 47) = xw9 := ⟨_, rfl⟩
    have hB : Below W26.heap.size W26 W27 := by rw [← hWn]; exact below_new _ _
    have hNB : Its W27 (fun _ => True) (.slice (some ⟨W26.heap.size, 0, none⟩) 1 1) [(1, 0, c, [])] := by rw [← hWn]; exact (Its.one (ok := fun _ => True) ((1, 0, c, []) : PI) (IsB.nil _ _)).wide (fun _ _ _ => trivial)
    rw [hWn]
    clear hWn
    obtain ⟨b1, hnm⟩ : ∃ x, W26.heap.size = x := ⟨_, rfl⟩
    rw [hnm] at hNB ⊢
    replace HA := Lib.hid (HA.out.below hB)
    replace HB := Lib.hid (HB.out.trans (hB.mono HB.out.size))
    replace HI := Lib.hid (HI.out.grow hB)
    replace HV := Lib.hid (HV.out.below hB)
    replace HT := Lib.hid (fun j hj => keep_below hB _ _ (HT.out j hj))
    replace HBR := Lib.hid (HBR.out.grow hB)
    replace HVB := Lib.hid (HVB.out.below hB)
    replace HOR := Lib.hid (HOR.out.grow hB)
    replace HDR := Lib.hid (HDR.out.grow hB)
    replace HVD := Lib.hid (HVD.out.below hB)
    have HI1 := Lib.hid hNB
    clear hNB hB hnm
    refine hK.out _ _ ?_ (fun hHeld => ?_)
    · exact ⟨HA.out.2.1, HA.out.2.2.1, HA.out.2.2.2.1, HVB.out.2.1, HVB.out.2.2.1, HVD.out.2.1, HVD.out.2.2.1⟩
    clear hK K
    refine wpAnyH_take (i := 5) (v := ?_) rfl (by kernel_rfl) (by kernel_rfl) (by kernel_rfl) (fun _ _ _ h => h) (Or.inl ⟨by rfl, ?_⟩) (by assumption) ?_
    rotate_left
    · (intro w hSw; (try dsimp only at hSw); go_simp; try with_reducible rfl)
    simp only [Act.put, List.getElem_toArray, List.getElem_cons_succ, List.getElem_cons_zero, List.setIfInBounds_toArray, List.set_cons_zero, List.set_cons_succ]
    refine wpAnyH_ready (rs := [1]) (by kernel_rfl) (by simp) ?_
    refine AllReadyH.cons (o := _) rfl (fun K hK => ?_) ?_
    · clear hHeld
      go_simp
      refine (plain_calls_at 40 _ (arrP 40 (charP c)) _ _ _ (gA_dA HGC.out) HBR.out).mono ?_
      rintro e W28 ⟨up, rfl, hup, hB⟩
      replace HA := Lib.hid (HA.out.below hB)
      replace HB := Lib.hid (HB.out.trans (hB.mono HB.out.size))
      replace HI := Lib.hid (HI.out.grow hB)
      replace HV := Lib.hid (HV.out.below hB)
      replace HT := Lib.hid (fun j hj => keep_below hB _ _ (HT.out j hj))
      replace HBR := Lib.hid (HBR.out.grow hB)
      replace HVB := Lib.hid (HVB.out.below hB)
      replace HOR := Lib.hid (HOR.out.grow hB)
      replace HDR := Lib.hid (HDR.out.grow hB)
      replace HVD := Lib.hid (HVD.out.below hB)
      replace HI1 := Lib.hid (HI1.out.grow hB)
      rw [HPC.out] at hup
      have HUP := Lib.hid hup
      obtain ⟨uso, usc, uio, uic, rfl, _⟩ := hup.opened
      clear hup
      clear hB
      refine hK.out _ _ ?_ (fun hHeld => ?_)
      · exact ⟨HA.out.2.1, HA.out.2.2.1, HA.out.2.2.2.1, HVB.out.2.1, HVB.out.2.2.1, HVD.out.2.1, HVD.out.2.2.1⟩
      clear hK K
      refine wpAnyH_ready (rs := [6]) (by kernel_rfl) (by simp) ?_
      refine AllReadyH.cons (o := _) rfl (fun K hK => ?_) ?_
      · clear hHeld
        go_simp
        refine (psame_calls 40 _ _ (charP c) (charP c) _ _ 40 _ HNC.out HNC.out HUP.out (IsP.of (Slc.nil _ _) HI1.out)).mono ?_
        rintro e W29 ⟨rfl, hB⟩
        replace HA := Lib.hid (HA.out.below hB)
        replace HB := Lib.hid (HB.out.trans (hB.mono HB.out.size))
        replace HI := Lib.hid (HI.out.grow hB)
        replace HV := Lib.hid (HV.out.below hB)
        replace HT := Lib.hid (fun j hj => keep_below hB _ _ (HT.out j hj))
        replace HBR := Lib.hid (HBR.out.grow hB)
        replace HVB := Lib.hid (HVB.out.below hB)
        replace HOR := Lib.hid (HOR.out.grow hB)
        replace HDR := Lib.hid (HDR.out.grow hB)
        replace HVD := Lib.hid (HVD.out.below hB)
        replace HI1 := Lib.hid (HI1.out.grow hB)
        replace HUP := Lib.hid (HUP.out.grow hB)
        rw [pq_yes rfl]
        clear HUP HI1
        clear hB
        refine hK.out _ _ ?_ (fun hHeld => ?_)
        · exact ⟨HA.out.2.1, HA.out.2.2.1, HA.out.2.2.2.1, HVB.out.2.1, HVB.out.2.2.1, HVD.out.2.1, HVD.out.2.2.1⟩
        clear hK K
        refine wpAnyH_take (i := 7) (v := ?_) rfl (by kernel_rfl) (by kernel_rfl) (by kernel_rfl) (fun _ _ _ h => h) (Or.inl ⟨by rfl, ?_⟩) (by assumption) ?_
        rotate_left
        · (intro w hSw; (try dsimp only at hSw); go_simp; try with_reducible rfl)
        simp only [Act.put, List.getElem_toArray, List.getElem_cons_succ, List.getElem_cons_zero, List.setIfInBounds_toArray, List.set_cons_zero, List.set_cons_succ]
        refine wpAnyH_take (i := 8) (v := ?_) rfl (by kernel_rfl) (by kernel_rfl) (by kernel_rfl) (fun _ _ _ h => h) (Or.inl ⟨by rfl, ?_⟩) (by assumption) ?_
        rotate_left
        · (intro w hSw; (try dsimp only at hSw); go_simp; try with_reducible rfl)
        simp only [Act.put, List.getElem_toArray, List.getElem_cons_succ, List.getElem_cons_zero, List.setIfInBounds_toArray, List.set_cons_zero, List.set_cons_succ]
        refine wpAnyH_take (i := 9) (v := ?_) rfl (by kernel_rfl) (by kernel_rfl) (by kernel_rfl) (fun _ _ _ h => h) (Or.inl ⟨by rfl, ?_⟩) (by assumption) ?_
        rotate_left
        · (intro w hSw; (try dsimp only at hSw); go_simp; try with_reducible rfl)
        simp only [Act.put, List.getElem_toArray, List.getElem_cons_succ, List.getElem_cons_zero, List.setIfInBounds_toArray, List.set_cons_zero, List.set_cons_succ]
        refine wpAnyH_take (i := 11) (v := ?_) rfl (by kernel_rfl) (by kernel_rfl) (by kernel_rfl) (fun _ _ _ h => h) (Or.inl ⟨by rfl, ?_⟩) (by assumption) ?_
        rotate_left
        · (intro w hSw; (try dsimp only at hSw); go_simp; try with_reducible rfl)
        simp only [Act.put, List.getElem_toArray, List.getElem_cons_succ, List.getElem_cons_zero, List.setIfInBounds_toArray, List.set_cons_zero, List.set_cons_succ]
        refine wpAnyH_ready (rs := [10]) (by kernel_rfl) (by simp) ?_
        refine AllReadyH.cons (o := _) rfl (fun K hK => ?_) ?_
        · clear hHeld
          go_simp
          refine (plain_calls_at 41 _ (arrP 41 (boxP p)) _ _ _ (gA_dA HGB.out) HDR.out).mono ?_
          rintro e W30 ⟨uq, rfl, huq, hB⟩
          replace HA := Lib.hid (HA.out.below hB)
          replace HB := Lib.hid (HB.out.trans (hB.mono HB.out.size))
          replace HI := Lib.hid (HI.out.grow hB)
          replace HV := Lib.hid (HV.out.below hB)
          replace HT := Lib.hid (fun j hj => keep_below hB _ _ (HT.out j hj))
          replace HBR := Lib.hid (HBR.out.grow hB)
          replace HVB := Lib.hid (HVB.out.below hB)
          replace HOR := Lib.hid (HOR.out.grow hB)
          replace HDR := Lib.hid (HDR.out.grow hB)
          replace HVD := Lib.hid (HVD.out.below hB)
          rw [HPB.out] at huq
          have HUQ := Lib.hid huq
          obtain ⟨qso, qsc, qio, qic, rfl, _⟩ := huq.opened
          clear huq
          clear hB
          refine hK.out _ _ ?_ (fun hHeld => ?_)
          · exact ⟨HA.out.2.1, HA.out.2.2.1, HA.out.2.2.2.1, HVB.out.2.1, HVB.out.2.2.1, HVD.out.2.1, HVD.out.2.2.1⟩
          clear hK K
          refine wpAnyH_ready (rs := [12]) (by kernel_rfl) (by simp) ?_
          refine AllReadyH.cons (o := _) rfl (fun K hK => ?_) ?_
          · clear hHeld
            go_simp
            refine (ptidy_calls 40 _ p _ _ HCP.out HI.out).mono ?_
            rintro e W31 ⟨ut, rfl, hut, hB⟩
            replace HA := Lib.hid (HA.out.below hB)
            replace HB := Lib.hid (HB.out.trans (hB.mono HB.out.size))
            replace HI := Lib.hid (HI.out.grow hB)
            replace HV := Lib.hid (HV.out.below hB)
            replace HT := Lib.hid (fun j hj => keep_below hB _ _ (HT.out j hj))
            replace HBR := Lib.hid (HBR.out.grow hB)
            replace HVB := Lib.hid (HVB.out.below hB)
            replace HOR := Lib.hid (HOR.out.grow hB)
            replace HDR := Lib.hid (HDR.out.grow hB)
            replace HVD := Lib.hid (HVD.out.below hB)
            replace HUQ := Lib.hid (HUQ.out.grow hB)
            have HUT := Lib.hid (hut.wide (ok' := fun _ => True) (fun _ _ _ => trivial))
            obtain ⟨tso, tsc, tio, tic, rfl, _⟩ := hut.opened
            clear hut
            clear hB
            refine hK.out _ _ ?_ (fun hHeld => ?_)
            · exact ⟨HA.out.2.1, HA.out.2.2.1, HA.out.2.2.2.1, HVB.out.2.1, HVB.out.2.2.1, HVD.out.2.1, HVD.out.2.2.1⟩
            clear hK K
            refine wpAnyH_ready (rs := [13]) (by kernel_rfl) (by simp) ?_
            refine AllReadyH.cons (o := _) rfl (fun K hK => ?_) ?_
            · clear hHeld
              go_simp
              obtain ⟨W32, hWn⟩ : ∃ xw9, W31.alloc (.cells #[.slice tso (tidyP 40 p).s.length tsc, .slice tio (tidyP 40 p).l.length tic, .int .i64 (tidyP 40 p).f] 27) = xw9 := ⟨_, rfl⟩
              have hB : Below W31.heap.size W31 W32 := by rw [← hWn]; exact below_new _ _
              have hNB : IsB W32 (fun _ => True) (.slice (some ⟨W31.heap.size, 0, none⟩) 1 1) [tidyP 40 p] := by rw [← hWn]; exact (IsB.one (ok := fun _ => True) HUT.out _).wide (fun _ _ _ => trivial)
              rw [hWn]
              clear hWn
              obtain ⟨b2, hnm⟩ : ∃ x, W31.heap.size = x := ⟨_, rfl⟩
              rw [hnm] at hNB ⊢
              replace HA := Lib.hid (HA.out.below hB)
              replace HB := Lib.hid (HB.out.trans (hB.mono HB.out.size))
              replace HI := Lib.hid (HI.out.grow hB)
              replace HV := Lib.hid (HV.out.below hB)
              replace HT := Lib.hid (fun j hj => keep_below hB _ _ (HT.out j hj))
              replace HBR := Lib.hid (HBR.out.grow hB)
              replace HVB := Lib.hid (HVB.out.below hB)
              replace HOR := Lib.hid (HOR.out.grow hB)
              replace HDR := Lib.hid (HDR.out.grow hB)
              replace HVD := Lib.hid (HVD.out.below hB)
              replace HUQ := Lib.hid (HUQ.out.grow hB)
              replace HUT := Lib.hid (HUT.out.grow hB)
              have HBX := Lib.hid hNB
              clear hNB hB hnm
              refine hK.out _ _ ?_ (fun hHeld => ?_)
              · exact ⟨HA.out.2.1, HA.out.2.2.1, HA.out.2.2.2.1, HVB.out.2.1, HVB.out.2.2.1, HVD.out.2.1, HVD.out.2.2.1⟩
              clear hK K
              refine wpAnyH_take (i := 14) (v := ?_) rfl (by kernel_rfl) (by kernel_rfl) (by kernel_rfl) (fun _ _ _ h => h) (Or.inl ⟨by rfl, ?_⟩) (by assumption) ?_
              rotate_left
              · (intro w hSw; (try dsimp only at hSw); go_simp; try with_reducible rfl)
              simp only [Act.put, List.getElem_toArray, List.getElem_cons_succ, List.getElem_cons_zero, List.setIfInBounds_toArray, List.set_cons_zero, List.set_cons_succ]
              refine wpAnyH_ready (rs := [15]) (by kernel_rfl) (by simp) ?_
              refine AllReadyH.cons (o := _) rfl (fun K hK => ?_) ?_
              · clear hHeld
                go_simp
                obtain ⟨W33, hWn⟩ : ∃ xw9, W32.alloc (.cells #[.int .i64 2, .float .f64 0, .int .i32 0, .slice (some ⟨b2, 0, none⟩) 1 1] 47) = xw9 := ⟨_, rfl⟩
                have hB : Below W32.heap.size W32 W33 := by rw [← hWn]; exact below_new _ _
                have hNB : Its W33 (fun _ => True) (.slice (some ⟨W32.heap.size, 0, none⟩) 1 1) [(2, 0, 0, [tidyP 40 p])] := by rw [← hWn]; exact (Its.one (ok := fun _ => True) ((2, 0, 0, [tidyP 40 p]) : PI) HBX.out).wide (fun _ _ _ => trivial)
                rw [hWn]
                clear hWn
                obtain ⟨b3, hnm⟩ : ∃ x, W32.heap.size = x := ⟨_, rfl⟩
                rw [hnm] at hNB ⊢
                replace HA := Lib.hid (HA.out.below hB)
                replace HB := Lib.hid (HB.out.trans (hB.mono HB.out.size))
                replace HI := Lib.hid (HI.out.grow hB)
                replace HV := Lib.hid (HV.out.below hB)
                replace HT := Lib.hid (fun j hj => keep_below hB _ _ (HT.out j hj))
                replace HBR := Lib.hid (HBR.out.grow hB)
                replace HVB := Lib.hid (HVB.out.below hB)
                replace HOR := Lib.hid (HOR.out.grow hB)
                replace HDR := Lib.hid (HDR.out.grow hB)
                replace HVD := Lib.hid (HVD.out.below hB)
                replace HUQ := Lib.hid (HUQ.out.grow hB)
                replace HUT := Lib.hid (HUT.out.grow hB)
                replace HBX := Lib.hid (HBX.out.grow hB)
                have HI2 := Lib.hid hNB
                clear hNB hB hnm
                refine hK.out _ _ ?_ (fun hHeld => ?_)
                · exact ⟨HA.out.2.1, HA.out.2.2.1, HA.out.2.2.2.1, HVB.out.2.1, HVB.out.2.2.1, HVD.out.2.1, HVD.out.2.2.1⟩
                clear hK K
                refine wpAnyH_take (i := 16) (v := ?_) rfl (by kernel_rfl) (by kernel_rfl) (by kernel_rfl) (fun _ _ _ h => h) (Or.inl ⟨by rfl, ?_⟩) (by assumption) ?_
                rotate_left
                · (intro w hSw; (try dsimp only at hSw); go_simp; try with_reducible rfl)
                simp only [Act.put, List.getElem_toArray, List.getElem_cons_succ, List.getElem_cons_zero, List.setIfInBounds_toArray, List.set_cons_zero, List.set_cons_succ]
                refine wpAnyH_ready (rs := [17]) (by kernel_rfl) (by simp) ?_
                refine AllReadyH.cons (o := _) rfl (fun K hK => ?_) ?_
                · clear hHeld
                  go_simp
                  refine (psame_calls 41 _ _ (boxP (tidyP 40 p)) (boxP (tidyP 40 p)) _ _ 41 _ HNB.out HNB.out HUQ.out (IsP.of (Slc.nil _ _) HI2.out)).mono ?_
                  rintro e W34 ⟨rfl, hB⟩
                  replace HA := Lib.hid (HA.out.below hB)
                  replace HB := Lib.hid (HB.out.trans (hB.mono HB.out.size))
                  replace HI := Lib.hid (HI.out.grow hB)
                  replace HV := Lib.hid (HV.out.below hB)
                  replace HT := Lib.hid (fun j hj => keep_below hB _ _ (HT.out j hj))
                  replace HBR := Lib.hid (HBR.out.grow hB)
                  replace HVB := Lib.hid (HVB.out.below hB)
                  replace HOR := Lib.hid (HOR.out.grow hB)
                  replace HDR := Lib.hid (HDR.out.grow hB)
                  replace HVD := Lib.hid (HVD.out.below hB)
                  replace HUQ := Lib.hid (HUQ.out.grow hB)
                  replace HUT := Lib.hid (HUT.out.grow hB)
                  replace HBX := Lib.hid (HBX.out.grow hB)
                  replace HI2 := Lib.hid (HI2.out.grow hB)
                  rw [pq_yes rfl]
                  clear hB
                  refine hK.out _ _ ?_ (fun hHeld => ?_)
                  · exact ⟨HA.out.2.1, HA.out.2.2.1, HA.out.2.2.2.1, HVB.out.2.1, HVB.out.2.2.1, HVD.out.2.1, HVD.out.2.2.1⟩
                  clear hK K
                  refine wpAnyH_take (i := 18) (v := ?_) rfl (by kernel_rfl) (by kernel_rfl) (by kernel_rfl) (fun _ _ _ h => h) (Or.inl ⟨by rfl, ?_⟩) (by assumption) ?_
                  rotate_left
                  · (intro w hSw; (try dsimp only at hSw); go_simp; try with_reducible rfl)
                  simp only [Act.put, List.getElem_toArray, List.getElem_cons_succ, List.getElem_cons_zero, List.setIfInBounds_toArray, List.set_cons_zero, List.set_cons_succ]
                  refine wpAnyH_take (i := 19) (v := ?_) rfl (by kernel_rfl) (by kernel_rfl) (by kernel_rfl) (fun _ _ _ h => h) (Or.inl ⟨by rfl, ?_⟩) (by assumption) ?_
                  rotate_left
                  · (intro w hSw; (try dsimp only at hSw); go_simp; try with_reducible rfl)
                  simp only [Act.put, List.getElem_toArray, List.getElem_cons_succ, List.getElem_cons_zero, List.setIfInBounds_toArray, List.set_cons_zero, List.set_cons_succ]
                  refine wpAnyH_done (by kernel_rfl) ?_ _
                  clear hHeld
                  have cHA0 := HA.out.2.1
                  have cHA1 := HA.out.2.2.1
                  have cHA2 := HA.out.2.2.2.1
                  go_wp2_with fail
                  by_cases hfl : ∀ y ∈ l, Fnt y
                  · have HFL := Lib.hid hfl
                    clear hfl
                    refine (vfloats_yes _ l _ HV.out (by have := HLM.out; omega) HFL.out).mono ?_
                    rintro e W35 ⟨uv, rfl, hUV, hB⟩
                    clear cHA0 cHA1 cHA2
                    replace HA := Lib.hid (HA.out.below hB)
                    replace HB := Lib.hid (HB.out.trans (hB.mono HB.out.size))
                    replace HV := Lib.hid (HV.out.below hB)
                    replace HT := Lib.hid (fun j hj => keep_below hB _ _ (HT.out j hj))
                    replace HOR := Lib.hid (HOR.out.grow hB)
                    have HUV := Lib.hid hUV
                    have hsv := hUV.store
                    clear hUV
                    clear hB
                    have cHA0 := HA.out.2.1
                    have cHA1 := HA.out.2.2.1
                    have cHA2 := HA.out.2.2.2.1
                    go_wp2_with fail
                    obtain ⟨W36, hWn⟩ : ∃ xw9, W35.alloc (.cells #[uv] 32) = xw9 := ⟨_, rfl⟩
                    have hB : Below W35.heap.size W35 W36 := by rw [← hWn]; exact below_new _ _
                    have hNB : At1 W36 W35.heap.size (uv) := by rw [← hWn]; exact At1.new _ _ _
                    rw [hWn]
                    clear hWn
                    obtain ⟨bv, hnm⟩ : ∃ x, W35.heap.size = x := ⟨_, rfl⟩
                    rw [hnm] at hNB ⊢
                    clear cHA0 cHA1 cHA2
                    replace HA := Lib.hid (HA.out.below hB)
                    replace HB := Lib.hid (HB.out.trans (hB.mono HB.out.size))
                    replace HV := Lib.hid (HV.out.below hB)
                    replace HT := Lib.hid (fun j hj => keep_below hB _ _ (HT.out j hj))
                    replace HOR := Lib.hid (HOR.out.grow hB)
                    replace HUV := Lib.hid (HUV.out.grow hB)
                    have HVW := Lib.hid hNB
                    clear hNB hB hnm
                    have cHA0 := HA.out.2.1
                    have cHA1 := HA.out.2.2.1
                    have cHA2 := HA.out.2.2.2.1
                    have cHVW0 := HVW.out.2.1
                    have HFK := Lib.hid (show (VV.floats (l.map ze)).ok by have := HLM.out; simp [VV.ok]; omega)
                    have HFM := Lib.hid (show (VV.floats (l.map ze)).nm by
                      intro y hy
                      simp only [List.mem_map] at hy
                      obtain ⟨z, hz, rfl⟩ := hy
                      exact ze_num (HFL.out z hz))
                    have HQC := Lib.hid (show chk 40 (numsP l) = 0 from (nums_chk (by have := HLM.out; omega)).2 HFL.out)
                    have HGQ := Lib.hid (arrP_good 40 _ HQC.out)
                    have HPQ := Lib.hid (plA_arrP 40 _ HQC.out)
                    have HNQ := Lib.hid (nice_tidy 40 _ HQC.out)
                    refine (valList_calls _ (.floats (l.map ze)) _ HUV.out HFK.out HFM.out HT.out).mono ?_
                    rintro e W37 ⟨so4, sc4, ua4, rfl, hLA, hB⟩
                    clear cHA0 cHA1 cHA2 cHVW0
                    replace HA := Lib.hid (HA.out.below hB)
                    replace HB := Lib.hid (HB.out.trans (hB.mono HB.out.size))
                    replace HV := Lib.hid (HV.out.below hB)
                    replace HT := Lib.hid (fun j hj => keep_below hB _ _ (HT.out j hj))
                    replace HOR := Lib.hid (HOR.out.grow hB)
                    replace HUV := Lib.hid (HUV.out.grow hB)
                    replace HVW := Lib.hid (HVW.out.below hB)
                    rw [show (VV.floats (l.map ze)).len = l.length from by simp [VV.len]] at hLA
                    have HLA := Lib.hid (show IsArr W37 (fun _ => True) (.slice so4 1 sc4) ua4 (arrP 40 (numsP l)) by rw [nums_arr]; exact ⟨hLA.1.keep (Kept.refl _ _) (fun _ _ _ => trivial), hLA.2.wide (fun _ _ _ => trivial)⟩)
                    clear hLA
                    clear hB
                    have cHA0 := HA.out.2.1
                    have cHA1 := HA.out.2.2.1
                    have cHA2 := HA.out.2.2.2.1
                    have cHVW0 := HVW.out.2.1
                    go_wp2_with fail
                    refine (plain_calls_at 40 _ (arrP 40 (numsP l)) _ _ _ (gA_dA HGQ.out) HLA.out).mono ?_
                    rintro e W38 ⟨up4, rfl, hup, hB⟩
                    clear cHA0 cHA1 cHA2 cHVW0
                    replace HA := Lib.hid (HA.out.below hB)
                    replace HB := Lib.hid (HB.out.trans (hB.mono HB.out.size))
                    replace HV := Lib.hid (HV.out.below hB)
                    replace HT := Lib.hid (fun j hj => keep_below hB _ _ (HT.out j hj))
                    replace HOR := Lib.hid (HOR.out.grow hB)
                    replace HUV := Lib.hid (HUV.out.grow hB)
                    replace HVW := Lib.hid (HVW.out.below hB)
                    replace HLA := Lib.hid (HLA.out.grow hB)
                    rw [HPQ.out] at hup
                    have HUP := Lib.hid hup
                    obtain ⟨p4, q4, r4, t4, rfl, _⟩ := hup.opened
                    clear hup
                    clear hB
                    have cHA0 := HA.out.2.1
                    have cHA1 := HA.out.2.2.1
                    have cHA2 := HA.out.2.2.2.1
                    have cHVW0 := HVW.out.2.1
                    go_wp2_with fail
                    refine (rNums_calls _ l _ HV.out (by have := HLM.out; omega)).mono ?_
                    rintro e W39 ⟨un4, rfl, hun, hB⟩
                    clear cHA0 cHA1 cHA2 cHVW0
                    replace HA := Lib.hid (HA.out.below hB)
                    replace HB := Lib.hid (HB.out.trans (hB.mono HB.out.size))
                    replace HV := Lib.hid (HV.out.below hB)
                    replace HT := Lib.hid (fun j hj => keep_below hB _ _ (HT.out j hj))
                    replace HOR := Lib.hid (HOR.out.grow hB)
                    replace HUV := Lib.hid (HUV.out.grow hB)
                    replace HVW := Lib.hid (HVW.out.below hB)
                    replace HLA := Lib.hid (HLA.out.grow hB)
                    replace HUP := Lib.hid (HUP.out.grow hB)
                    have HUN := Lib.hid hun
                    obtain ⟨p5, q5, r5, t5, rfl, _⟩ := hun.opened
                    clear hun
                    clear hB
                    have cHA0 := HA.out.2.1
                    have cHA1 := HA.out.2.2.1
                    have cHA2 := HA.out.2.2.2.1
                    have cHVW0 := HVW.out.2.1
                    go_wp2_with fail
                    refine (ptidy_calls 40 _ (numsP l) _ _ HQC.out HUN.out).mono ?_
                    rintro e W40 ⟨ut4, rfl, hut, hB⟩
                    clear cHA0 cHA1 cHA2 cHVW0
                    replace HA := Lib.hid (HA.out.below hB)
                    replace HB := Lib.hid (HB.out.trans (hB.mono HB.out.size))
                    replace HV := Lib.hid (HV.out.below hB)
                    replace HT := Lib.hid (fun j hj => keep_below hB _ _ (HT.out j hj))
                    replace HOR := Lib.hid (HOR.out.grow hB)
                    replace HUV := Lib.hid (HUV.out.grow hB)
                    replace HVW := Lib.hid (HVW.out.below hB)
                    replace HLA := Lib.hid (HLA.out.grow hB)
                    replace HUP := Lib.hid (HUP.out.grow hB)
                    replace HUN := Lib.hid (HUN.out.grow hB)
                    have HUT := Lib.hid hut
                    obtain ⟨p6, q6, r6, t6, rfl, _⟩ := hut.opened
                    clear hut
                    clear hB
                    have cHA0 := HA.out.2.1
                    have cHA1 := HA.out.2.2.1
                    have cHA2 := HA.out.2.2.2.1
                    have cHVW0 := HVW.out.2.1
                    go_wp2_with fail
                    refine (psame_calls 40 _ _ (tidyP 40 (numsP l)) (tidyP 40 (numsP l)) _ _ 40 _ HNQ.out HNQ.out HUP.out HUT.out).mono ?_
                    rintro e W41 ⟨rfl, hB⟩
                    clear cHA0 cHA1 cHA2 cHVW0
                    replace HA := Lib.hid (HA.out.below hB)
                    replace HB := Lib.hid (HB.out.trans (hB.mono HB.out.size))
                    replace HV := Lib.hid (HV.out.below hB)
                    replace HT := Lib.hid (fun j hj => keep_below hB _ _ (HT.out j hj))
                    replace HOR := Lib.hid (HOR.out.grow hB)
                    replace HUV := Lib.hid (HUV.out.grow hB)
                    replace HVW := Lib.hid (HVW.out.below hB)
                    replace HLA := Lib.hid (HLA.out.grow hB)
                    replace HUP := Lib.hid (HUP.out.grow hB)
                    replace HUN := Lib.hid (HUN.out.grow hB)
                    replace HUT := Lib.hid (HUT.out.grow hB)
                    rw [pq_yes rfl]
                    clear hB
                    have cHA0 := HA.out.2.1
                    have cHA1 := HA.out.2.2.1
                    have cHA2 := HA.out.2.2.2.1
                    have cHVW0 := HVW.out.2.1
                    go_wp2_with fail
                    refine (awake7_calls _ HT.out).mono ?_
                    rintro e W42 ⟨rfl, hB⟩
                    clear cHA0 cHA1 cHA2 cHVW0
                    replace HA := Lib.hid (HA.out.below hB)
                    replace HB := Lib.hid (HB.out.trans (hB.mono HB.out.size))
                    replace HV := Lib.hid (HV.out.below hB)
                    replace HT := Lib.hid (fun j hj => keep_below hB _ _ (HT.out j hj))
                    replace HOR := Lib.hid (HOR.out.grow hB)
                    replace HUV := Lib.hid (HUV.out.grow hB)
                    replace HVW := Lib.hid (HVW.out.below hB)
                    replace HLA := Lib.hid (HLA.out.grow hB)
                    replace HUP := Lib.hid (HUP.out.grow hB)
                    replace HUN := Lib.hid (HUN.out.grow hB)
                    replace HUT := Lib.hid (HUT.out.grow hB)
                    clear hB
                    have cHA0 := HA.out.2.1
                    have cHA1 := HA.out.2.2.1
                    have cHA2 := HA.out.2.2.2.1
                    have cHVW0 := HVW.out.2.1
                    go_wp2_with fail
                    go_ret
                    exact BoolIs.mk rfl HB.out
                  · have HFL := Lib.hid (show ∃ y ∈ l, ¬ Fnt y from Classical.byContradiction fun h => hfl fun y hy => Classical.byContradiction fun h2 => h ⟨y, hy, h2⟩)
                    clear hfl
                    refine (vfloats_no _ l _ HV.out (by have := HLM.out; omega) HLX.out.2 HFL.out).mono ?_
                    rintro e W35 ⟨uv, rfl, hUV, hB⟩
                    clear cHA0 cHA1 cHA2
                    replace HA := Lib.hid (HA.out.below hB)
                    replace HB := Lib.hid (HB.out.trans (hB.mono HB.out.size))
                    replace HV := Lib.hid (HV.out.below hB)
                    replace HT := Lib.hid (fun j hj => keep_below hB _ _ (HT.out j hj))
                    replace HOR := Lib.hid (HOR.out.grow hB)
                    have HUV := Lib.hid hUV
                    have hsv := hUV.store
                    clear hUV
                    clear hB
                    have cHA0 := HA.out.2.1
                    have cHA1 := HA.out.2.2.1
                    have cHA2 := HA.out.2.2.2.1
                    go_wp2_with fail
                    obtain ⟨W36, hWn⟩ : ∃ xw9, W35.alloc (.cells #[uv] 32) = xw9 := ⟨_, rfl⟩
                    have hB : Below W35.heap.size W35 W36 := by rw [← hWn]; exact below_new _ _
                    have hNB : At1 W36 W35.heap.size (uv) := by rw [← hWn]; exact At1.new _ _ _
                    rw [hWn]
                    clear hWn
                    obtain ⟨bv, hnm⟩ : ∃ x, W35.heap.size = x := ⟨_, rfl⟩
                    rw [hnm] at hNB ⊢
                    clear cHA0 cHA1 cHA2
                    replace HA := Lib.hid (HA.out.below hB)
                    replace HB := Lib.hid (HB.out.trans (hB.mono HB.out.size))
                    replace HV := Lib.hid (HV.out.below hB)
                    replace HT := Lib.hid (fun j hj => keep_below hB _ _ (HT.out j hj))
                    replace HOR := Lib.hid (HOR.out.grow hB)
                    have HVW := Lib.hid hNB
                    clear hNB hB hnm
                    have cHA0 := HA.out.2.1
                    have cHA1 := HA.out.2.2.1
                    have cHA2 := HA.out.2.2.2.1
                    have cHVW0 := HVW.out.2.1
                    refine (awake7_calls _ HT.out).mono ?_
                    rintro e W37 ⟨rfl, hB⟩
                    clear cHA0 cHA1 cHA2 cHVW0
                    replace HA := Lib.hid (HA.out.below hB)
                    replace HB := Lib.hid (HB.out.trans (hB.mono HB.out.size))
                    replace HV := Lib.hid (HV.out.below hB)
                    replace HT := Lib.hid (fun j hj => keep_below hB _ _ (HT.out j hj))
                    replace HOR := Lib.hid (HOR.out.grow hB)
                    replace HVW := Lib.hid (HVW.out.below hB)
                    clear hB
                    have cHA0 := HA.out.2.1
                    have cHA1 := HA.out.2.2.1
                    have cHA2 := HA.out.2.2.2.1
                    have cHVW0 := HVW.out.2.1
                    go_wp2_with fail
                    go_ret
                    exact BoolIs.mk rfl HB.out
                exact AllReadyH.nil
              exact AllReadyH.nil
            exact AllReadyH.nil
          exact AllReadyH.nil
        exact AllReadyH.nil
      exact AllReadyH.nil
    exact AllReadyH.nil
  exact AllReadyH.nil
end Go.Proofs.YtohjomhiibkobaaGreatDoor

/- Package value's law: ValueAlone, whole. -/
namespace Go.Proofs.YtohjomhiibkobaaGreatDoor
set_option maxRecDepth 100000
open Go.RowKit Fl
set_option linter.unusedVariables false

theorem valueAlone_walk (x : Nat) (hxw : x < 18446744073709551616) (c : Int) (v : Value) (l : List Nat) (p : PA) (u : Value) (n : Nat) (w : World) (hv : Slc w (fun _ => True) v l.length (f64s l)) (hf : ∀ y ∈ l, y < 18446744073709551616) (hl : lo n p) (hp : IsP w (fun _ => True) u p) (hT : TabAt w) :
    Calls Tryz.prog 3 #[.float .f64 x, .int .i32 c, v, u] w (BoolIs true w) := by
  by_cases hfx : Fnt x
  · exact valueAlone_yes x hxw c v l p u n w hv hf hl hp hT hfx
  · exact valueAlone_no x hxw c v l p u n w hv hf hl hp hT hfx
theorem valueAlone_frame (w : World) (x : Nat) (hx : (Lit.float .f64 x).wf = true) (c : Int) (_ : (Lit.int .i32 c).wf = true) (v : Value) (l : List Nat) (hr : RowC w v (l.map (Value.float .f64))) (hz : ∀ z ∈ l, (Lit.float .f64 z).wf = true) (_ : l.length ≤ maxLen) (u : Value) (p : PA) (n : Nat) (hl : lo n p) (hp : IsP w (fun _ => True) u p) (hT : TabAt w) :
    Calls Tryz.prog 3 #[.float .f64 x, .int .i32 c, v, u] w fun e w' => e = .returned (.bool true) ∧ Below w.heap.size w w' :=
  valueAlone_walk x (wf_f64 hx) c v l p u n w (by have := hr.slc; rw [List.length_map] at this; exact this) (fun z h => wf_f64 (hz z h)) hl hp hT
end Go.Proofs.YtohjomhiibkobaaGreatDoor
