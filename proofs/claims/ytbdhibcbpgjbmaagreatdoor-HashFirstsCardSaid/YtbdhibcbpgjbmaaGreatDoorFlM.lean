/- Elements at some places, as items: plain. -/
import Derived.Test.YtbdhibcbpgjbmaaGreatDoorFlE
import Derived.Test.YtbdhibcbpgjbmaaGreatDoorVbE
namespace Go.Proofs.YtbdhibcbpgjbmaaGreatDoor
set_option maxRecDepth 100000
open Go.RowKit Fl
set_option linter.unusedVariables false

def gV (d : Nat) (V : VV) : Prop := V.ok ∧ V.nm ∧ V.kind = V.least ∧ ∀ a ∈ V.boxs, gA d a
/-- The items of a vector. -/
def itsA (d : Nat) (V : VV) : List PI := (List.range V.len).map (itA (plA d) V)
def blankP : PA := .mk [0] [] 0
/-- What stands for none, of a class. -/
def blankI (c : Int) : PI := if c = 1 then (1, 0, 32, []) else if c = 2 then (2, 0, 0, [blankP]) else (0, 0, 0, [])
theorem itsA_len (d : Nat) (V : VV) : (itsA d V).length = V.len := by simp [itsA]
theorem itsA_get {d : Nat} {V : VV} {k : Nat} (h : k < V.len) : (itsA d V)[k]? = some (itA (plA d) V k) := by simp [itsA, h]
theorem VV.kind_cases (V : VV) : V.kind = 0 → V = .none := by cases V <;> simp [VV.kind]
theorem gV_kind {d : Nat} {V : VV} (h : gV d V) : V.kind ≠ 0 := by
 intro e
 have hn := VV.kind_cases V e
 subst hn
 have := h.2.2.1
 simp [VV.kind, VV.least, leastW, VV.nums] at this
theorem gA_gV {d : Nat} {A : List Int × VV} (h : gA (d + 1) A) : gV d A.2 := ⟨h.2.1, h.2.2.1, h.2.2.2.1, h.2.2.2.2⟩
theorem gV_gA {d : Nat} {V : VV} (h : gV d V) : gA (d + 1) ([(V.len : Int)], V) := by
 refine ⟨?_, h.1, h.2.1, h.2.2.1, h.2.2.2⟩
 have := nums_prod (List.replicate V.len 0) (by simpa using VV.ok_len h.1)
 simpa using this
theorem gA_blank (d : Nat) : gA (d + 1) blankA := by
 refine ⟨by decide, by simp [blankA, VV.ok], by simp [blankA, VV.nm], rfl, ?_⟩
 intro a ha
 simp [blankA, VV.boxs] at ha
theorem plA_blank (d : Nat) : plA (d + 1) blankA = blankP := by simp [plA, blankA, blankP, VV.len, VV.cls]
theorem plA_list {d : Nat} {V : VV} : plA (d + 1) ([(V.len : Int)], V) = .mk [((itsA d V).length : Int)] (itsA d V) V.cls := by rw [itsA_len]; rfl
theorem gV_box {d : Nat} {V : VV} (h : gV d V) : ∀ a ∈ V.boxs, a.1.length ≤ 1048576 := by
 intro a ha
 cases V <;> simp [VV.boxs] at ha
 exact h.1.2 _ ha
theorem VV.nums_length {V : VV} (h : V.cls = 0) : V.nums.length = V.len := by cases V <;> simp_all [VV.cls, VV.nums, VV.len]
theorem text_chars (l : List Int) : (VV.chars l).text = l := rfl
theorem boxs_boxes (l : List (List Int × VV)) : (VV.boxes l).boxs = l := rfl
theorem atI_or {α : Type} (l : List α) (d : α) (i : Int) : (∃ k : Nat, i = (k : Int) ∧ ∃ h : k < l.length, atI l d i = l[k]) ∨ (¬ (0 ≤ i ∧ i < (l.length : Int)) ∧ atI l d i = d) := by
 by_cases h : 0 ≤ i ∧ i < (l.length : Int)
 ·obtain ⟨k, rfl⟩ := Int.eq_ofNat_of_zero_le h.1
  exact Or.inl ⟨k, rfl, by omega, atI_nat (by omega)⟩
 ·exact Or.inr ⟨h, atI_neg h⟩
theorem sqI_nat {l : List Bool} {k : Nat} (h : k < l.length) : sqI l (k : Int) = l[k] := sqI_some (by simp [h])
theorem flagW_sqI {l : List Bool} {i : Int} : flagW (sqI l i) = atI (l.map flagW) 0 i := by
 by_cases h : 0 ≤ i ∧ i < (l.length : Int)
 ·obtain ⟨k, rfl⟩ := Int.eq_ofNat_of_zero_le h.1
  have hk : k < l.length := by omega
  rw [sqI_nat hk, atI_nat (by simpa using hk)]
  simp
 ·rw [sqI_out h, atI_neg (by simpa using h)]; rfl
theorem VV.sel_len (V : VV) (at_ : List Int) (hn : ∀ x ∈ V.nums, Num x) (hm : at_.length ≤ 1048576) : (V.sel at_).len = at_.length := by
 have hf : (VV.floats (at_.map (atI V.nums 0))).sq.len = at_.length := by
  have := (VV.sq_spec (V := VV.floats (at_.map (atI V.nums 0))) (by simpa [VV.ok] using hm) (map_atI_num hn)).2.2.2.2.2
  rw [this]; simp [VV.len]
 cases V <;> first | exact hf | simp [VV.sel, VV.len]
theorem VV.sel_cls (V : VV) (at_ : List Int) (hn : ∀ x ∈ V.nums, Num x) (hm : at_.length ≤ 1048576) : (V.sel at_).cls = V.cls := by
 have hf : (VV.floats (at_.map (atI V.nums 0))).sq.cls = 0 := (VV.sq_spec (V := VV.floats (at_.map (atI V.nums 0))) (by simpa [VV.ok] using hm) (map_atI_num hn)).2.2.1
 cases V <;> first | exact hf | rfl
theorem VV.sel_numbers {V : VV} (at_ : List Int) (hn : ∀ x ∈ V.nums, Num x) (hm : at_.length ≤ 1048576) (hc : V.cls = 0) : (V.sel at_).nums = at_.map (atI V.nums 0) := by
 by_cases hb : V.isBit = true
 ·rw [VV.sel_bits hb]
  cases V <;> simp [VV.isBit] at hb
  simp only [VV.nums, VV.packed, List.map_map]
  apply List.map_congr_left
  intro i _
  exact flagW_sqI
 ·rw [VV.sel_nums hc (by simpa using hb)]
  exact (VV.sq_spec (V := VV.floats (at_.map (atI V.nums 0))) (by simpa [VV.ok] using hm) (map_atI_num hn)).2.1
theorem gV_sel {d : Nat} {V : VV} {at_ : List Int} (h : gV (d + 1) V) (hm : at_.length ≤ 1048576) : gV (d + 1) (V.sel at_) := by
 have hn := VV.nums_num h.1 h.2.1
 by_cases hb : V.isBit = true
 ·rw [VV.sel_bits hb]
  exact ⟨by simpa [VV.ok] using hm, trivial, rfl, fun a ha => by simp [VV.boxs] at ha⟩
 ·rcases VV.cls_cases V with hc | hc | hc
  ·rw [VV.sel_nums hc (by simpa using hb)]
   have hok : (VV.floats (at_.map (atI V.nums 0))).ok := by simpa [VV.ok] using hm
   have hnm : (VV.floats (at_.map (atI V.nums 0))).nm := map_atI_num hn
   obtain ⟨h1, h2, h3, h4, h5, h6⟩ := VV.sq_spec hok hnm
   refine ⟨h4, h5, ?_, fun a ha => by rw [boxs_of_cls (by rw [h3]; simp [VV.cls])] at ha; simp at ha⟩
   rw [h1, VV.least_eq hok hnm rfl, VV.least_eq h4 h5 h3, h2]
  ·rw [VV.sel_chars hc]
   exact ⟨by simpa [VV.ok] using hm, trivial, rfl, fun a ha => by simp [VV.boxs] at ha⟩
  ·rw [VV.sel_boxes hc]
   refine ⟨⟨by simpa using hm, atI_boxs (gV_box h)⟩, trivial, rfl, fun a ha => ?_⟩
   have ha : a ∈ at_.map (atI V.boxs blankA) := ha
   obtain ⟨i, _, rfl⟩ := List.mem_map.1 ha
   rcases atI_or V.boxs blankA i with ⟨k, rfl, hk, e⟩ | ⟨_, e⟩
   ·rw [e]; exact h.2.2.2 _ (List.getElem_mem hk)
   ·rw [e]; exact gA_blank d
/-- The items at some places. -/
theorem its_sel {d : Nat} {V : VV} {at_ : List Int} (h : gV (d + 1) V) (hm : at_.length ≤ 1048576) : itsA (d + 1) (V.sel at_) = at_.map (atI (itsA (d + 1) V) (blankI V.cls)) := by
 have hn := VV.nums_num h.1 h.2.1
 have hl := VV.sel_len V at_ hn hm
 have hc := VV.sel_cls V at_ hn hm
 unfold itsA
 rw [hl]
 apply List.ext_getElem (by simp)
 intro k h1 h2
 have hk : k < at_.length := by simpa using h1
 simp only [List.getElem_map, List.getElem_range]
 obtain ⟨i, hi⟩ : ∃ i, i = at_[k] := ⟨_, rfl⟩
 rw [← hi]
 have hat : at_[k]? = some i := by rw [hi]; exact List.getElem?_eq_getElem hk
 have hr : atI ((List.range V.len).map (itA (plA (d + 1)) V)) (blankI V.cls) i = if 0 ≤ i ∧ i < (V.len : Int) then itA (plA (d + 1)) V i.toNat else blankI V.cls := by
  by_cases hin : 0 ≤ i ∧ i < (V.len : Int)
  ·obtain ⟨j, rfl⟩ := Int.eq_ofNat_of_zero_le hin.1
   rw [if_pos hin, atI_nat (by simp; omega)]
   simp
  ·rw [if_neg hin, atI_neg (by simpa using hin)]
 rw [hr]
 unfold itA
 rw [hc]
 rcases VV.cls_cases V with c | c | c
 ·rw [if_neg (by omega), if_neg (by omega), VV.sel_numbers at_ hn hm c, atI_some (x := atI V.nums 0 i) (by rw [List.getElem?_map, hat]; rfl)]
  by_cases hin : 0 ≤ i ∧ i < (V.len : Int)
  ·rw [if_pos hin, if_neg (by omega), if_neg (by omega), show ((i.toNat : Nat) : Int) = i by omega]
  ·rw [if_neg hin, atI_neg (by rw [VV.nums_length c]; exact hin)]
   simp [blankI, c]
 ·rw [if_pos c, VV.sel_chars c]
  rw [text_chars, atI_some (x := atI V.text 32 i) (by rw [List.getElem?_map, hat]; rfl)]
  by_cases hin : 0 ≤ i ∧ i < (V.len : Int)
  ·rw [if_pos hin, if_pos c, show ((i.toNat : Nat) : Int) = i by omega, atI_in (d := 32) (e := 0) (by rw [VV.text_len c]; exact hin)]
  ·rw [if_neg hin, atI_neg (by rw [VV.text_len c]; exact hin)]
   simp [blankI, c]
 ·rw [if_neg (by omega), if_pos c, VV.sel_boxes c]
  rw [boxs_boxes, atI_some (x := atI V.boxs blankA i) (by rw [List.getElem?_map, hat]; rfl)]
  by_cases hin : 0 ≤ i ∧ i < (V.len : Int)
  ·rw [if_pos hin, if_neg (by omega), if_pos c, show ((i.toNat : Nat) : Int) = i by omega, atI_in (d := blankA) (e := ([], VV.none)) (by rw [VV.boxs_len c]; exact hin)]
  ·rw [if_neg hin, atI_neg (by rw [VV.boxs_len c]; exact hin), plA_blank]
   simp [blankI, c]
theorem nice_plA (d : Nat) : ∀ A, gA d A → nice d (plA d A) := by
 induction d with
 | zero => intro A h; exact h.elim
 | succ d ih =>
  intro A h x hx
  have hx : x ∈ (List.range A.2.len).map (itA (plA d) A.2) := hx
  obtain ⟨k, hk, rfl⟩ := List.mem_map.1 hx
  have hk : k < A.2.len := by simpa using hk
  unfold itA
  rcases VV.cls_cases A.2 with c | c | c
  ·rw [if_neg (by omega), if_neg (by omega)]
   exact ⟨(by show Num (atI A.2.nums 0 (k : Int)); exact atI_num (VV.nums_num h.2.1 h.2.2.1)), fun q hq => by simp at hq⟩
  ·rw [if_pos c]
   exact ⟨⟨fin_zero, fun _ => rfl⟩, fun q hq => by simp at hq⟩
  ·rw [if_neg (by omega), if_pos c]
   refine ⟨⟨fin_zero, fun _ => rfl⟩, fun q hq => ?_⟩
   simp only [List.mem_singleton] at hq
   subst hq
   have hkb : k < A.2.boxs.length := by rw [VV.boxs_len c]; exact hk
   rw [atI_nat hkb]
   exact ih _ (h.2.2.2.2 _ (List.getElem_mem hkb))
/-- Of a good plain array. -/
theorem its_arrP {d : Nat} {p : PA} (h : chk (d + 1) p = 0) : itsA d (arrP (d + 1) p).2 = (tidyP (d + 1) p).l := by
 have e := plA_arrP (d + 1) p h
 have : (plA (d + 1) (arrP (d + 1) p)).l = (tidyP (d + 1) p).l := by rw [e]
 exact this
end Go.Proofs.YtbdhibcbpgjbmaaGreatDoor
