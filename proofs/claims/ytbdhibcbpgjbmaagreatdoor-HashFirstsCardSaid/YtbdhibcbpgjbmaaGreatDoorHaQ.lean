/- Layer 19's laws, plain: unique twice, what is kept and what is not. -/
import Derived.Test.YtbdhibcbpgjbmaaGreatDoorHaP
namespace Go.Proofs.YtbdhibcbpgjbmaaGreatDoor
set_option maxRecDepth 100000
open Go.RowKit Fl
set_option linter.unusedVariables false

theorem pick_in {l : List PI} {d e : PI} {g : List Nat} (hg : ∀ x ∈ g, x < l.length) : (zL g).map (atI l d) = g.map (fun (i : Nat) => atI l e (i : Int)) := by
 unfold zL
 rw [List.map_map]
 refine List.map_congr_left fun x hx => ?_
 show atI l d (x : Int) = atI l e (x : Int)
 exact atI_in ⟨by omega, by have := hg x hx; omega⟩
noncomputable def uniqL (l : List PI) : List PI := (frsL l).map (fun (i : Nat) => atI l (blankI 0) (i : Int))
theorem frsL_nodup (l : List PI) : (frsL l).Nodup := List.Pairwise.filter _ List.nodup_range
theorem frsL_fix {l : List PI} {i : Nat} (h : i ∈ frsL l) : fndI l (atI l (blankI 0) (i : Int)) = i := by
 have := (List.mem_filter.1 h).2
 exact of_decide_eq_true this
theorem uniqL_nodup (l : List PI) : (uniqL l).Nodup := by
 unfold uniqL
 rw [List.Nodup, List.pairwise_map]
 refine List.Pairwise.imp_of_mem (fun {a b} ha hb hne e => ?_) (frsL_nodup l)
 apply hne
 have h1 := frsL_fix ha
 have h2 := frsL_fix hb
 rw [e] at h1
 exact h1.symm.trans h2
theorem fndI_nodup {L : List PI} (h : L.Nodup) {k : Nat} (hk : k < L.length) : fndI L (L[k]) = k := by
 refine fndI_hit hk (iq_yes rfl) (fun j hj => iq_no (fun e => ?_))
 have := List.pairwise_iff_getElem.1 h j k (by omega) hk hj
 exact this e
theorem frs_nodup {L : List PI} (h : L.Nodup) : frsL L = List.range L.length := by
 unfold frsL
 rw [List.filter_eq_self]
 intro i hi
 have hi' := List.mem_range.1 hi
 rw [atI_nat hi', fndI_nodup h hi']
 simp
theorem range_all {L : List PI} {d : PI} : (zL (List.range L.length)).map (atI L d) = L := by
 rw [pick_in (e := d) (fun x hx => List.mem_range.1 hx)]
 apply List.ext_getElem (by simp)
 intro i h1 h2
 rw [List.getElem_map, List.getElem_range, atI_nat h2]
theorem uniq_again (l : List PI) {d : PI} : (zL (frsL (uniqL l))).map (atI (uniqL l) d) = uniqL l := by
 rw [frs_nodup (uniqL_nodup l)]; exact range_all
theorem sel_text19 {A : VV} (at_ : List Int) (hN : ∀ x ∈ A.nums, Num x) (hm : at_.length ≤ 1048576) (h : ∀ z ∈ A.text, -2147483648 ≤ z ∧ z ≤ 2147483647) : ∀ z ∈ (A.sel at_).text, -2147483648 ≤ z ∧ z ≤ 2147483647 := by
 intro z hz
 by_cases c : A.cls = 1
 ·rw [VV.sel_chars c] at hz
  have e2 : (VV.chars (at_.map (atI A.text 32))).text = at_.map (atI A.text 32) := rfl
  rw [e2] at hz
  obtain ⟨i, _, rfl⟩ := List.mem_map.1 hz
  by_cases hin : 0 ≤ i ∧ i < (A.text.length : Int)
  ·obtain ⟨k, rfl⟩ := Int.eq_ofNat_of_zero_le hin.1
   have hk : k < A.text.length := by omega
   rw [atI_nat hk]
   exact h _ (List.getElem_mem hk)
  ·rw [atI_neg hin]; exact ⟨by decide, by decide⟩
 ·rw [text_none19b (by rw [VV.sel_cls A at_ hN hm]; exact c)] at hz
  cases hz
/-- A vector that is picked: what it holds. -/
structure Sel (A : VV) (B : VV) (L : List PI) (f : Int) : Prop where
 hg : hG B
 cls : B.cls = f
 its : itsA 39 B = L
theorem sel_hold {A : VV} {l : List PI} {f : Int} {g : List Nat} (h : hG A) (hc : A.cls = f) (hi : itsA 39 A = l) (hg : ∀ x ∈ g, x < l.length) (hm : g.length ≤ 1048576) : Sel A (A.sel (zL g)) (g.map (fun (i : Nat) => atI l (blankI 0) (i : Int))) f := by
 have hN := VV.nums_num h.1.1 h.1.2.1
 have hm' : (zL g).length ≤ 1048576 := by rw [zL_len]; exact hm
 refine ⟨⟨gV_sel (d := 38) h.1 hm', sel_text19 _ hN hm' h.2⟩, by rw [VV.sel_cls _ _ hN hm']; exact hc, ?_⟩
 rw [its_sel (d := 38) h.1 hm', hi]
 exact pick_in hg
theorem frsL_len (l : List PI) : (frsL l).length ≤ l.length := by
 have := List.length_filter_le (fun (i : Nat) => decide (fndI l (atI l (blankI 0) (i : Int)) = i)) (List.range l.length)
 rw [List.length_range] at this; exact this
theorem witP_len (l m : List PI) (keep : Bool) : (witP l m keep).length ≤ l.length := by
 have := List.length_filter_le (fun (i : Nat) => decide (fndI m (atI l (blankI 0) (i : Int)) < m.length) == keep) (List.range l.length)
 rw [List.length_range] at this; exact this
theorem uniq_sel {A : VV} {l : List PI} {f : Int} (h : hG A) (hc : A.cls = f) (hi : itsA 39 A = l) (hm : l.length ≤ 1048576) : Sel A (A.sel (zL (frsL (itsA 39 A)))) (uniqL l) f := by
 rw [hi]; exact sel_hold h hc hi frsL_lt (Nat.le_trans (frsL_len l) hm)
theorem uniq_sel2 {A : VV} {l : List PI} {f : Int} (h : hG A) (hc : A.cls = f) (hi : itsA 39 A = uniqL l) (hm : (uniqL l).length ≤ 1048576) : Sel A (A.sel (zL (frsL (itsA 39 A)))) (uniqL l) f := by
 have h1 := uniq_sel h hc hi hm
 have e : uniqL (uniqL l) = uniqL l := by
  have := uniq_again l (d := blankI 0)
  rwa [pick_in (e := blankI 0) frsL_lt] at this
 rwa [e] at h1
theorem with_sel {A B : VV} {l m : List PI} {f : Int} (keep : Bool) (h : hG A) (hc : A.cls = f) (hi : itsA 39 A = l) (hj : itsA 39 B = m) (hm : l.length ≤ 1048576) : Sel A (A.sel (zL (witP (itsA 39 A) (itsA 39 B) keep))) (witL l m keep) f := by
 rw [hi, hj, ← witP_map]; exact sel_hold h hc hi witP_lt (Nat.le_trans (witP_len l m keep) hm)
theorem uniqL_len (l : List PI) : (uniqL l).length ≤ l.length := by unfold uniqL; rw [List.length_map]; exact frsL_len l
theorem uniqL_pick (l : List PI) (d : PI) : (zL (frsL l)).map (atI l d) = uniqL l := pick_in frsL_lt
end Go.Proofs.YtbdhibcbpgjbmaaGreatDoor
