/- Arrays and plain arrays, plain: what is made of a plain array is good, and told as it was. -/
import Derived.Test.YtbdhibcbpgjbmaaGreatDoorVaQ
import Derived.Test.YtbdhibcbpgjbmaaGreatDoorSqF
namespace Go.Proofs.YtbdhibcbpgjbmaaGreatDoor
open Fl
set_option linter.unusedVariables false
set_option maxRecDepth 100000

theorem hd_one {q : PA} {l : List PA} (h : l = [q]) : hd l = q := by subst h; rfl
theorem numsV_spec {l : List PI} (hf : ∀ x ∈ l, Fnt x.2.1) (hl : l.length ≤ 1048576) :
  (numsV l).nums = l.map (fun x => ze x.2.1) ∧ (numsV l).cls = 0 ∧ (numsV l).ok ∧ (numsV l).nm ∧ (numsV l).len = l.length ∧ (numsV l).kind = (leastW (l.map (fun x => ze x.2.1)) : Int) ∧ (numsV l).kind = (numsV l).least := by
 have hok : (VV.floats ((l.map (fun x => x.2.1)).map ze)).ok := by simpa [VV.ok] using hl
 have hnm : (VV.floats ((l.map (fun x => x.2.1)).map ze)).nm := by
  intro x hx
  simp only [List.map_map, List.mem_map] at hx
  obtain ⟨y, hy, rfl⟩ := hx
  exact ze_num (hf y hy)
 obtain ⟨h1, h2, h3, h4, h5, h6⟩ := VV.sq_spec hok hnm
 have hc : (VV.floats ((l.map (fun x => x.2.1)).map ze)).cls = 0 := rfl
 have hn : (VV.floats ((l.map (fun x => x.2.1)).map ze)).nums = l.map (fun x => ze x.2.1) := by simp [VV.nums]
 have hk : (numsV l).kind = (leastW (l.map (fun x => ze x.2.1)) : Int) := by
  unfold numsV; rw [h1, VV.least_eq hok hnm hc, hn]
 refine ⟨h2.trans hn, h3, h4, h5, by unfold numsV; rw [h6]; simp [VV.len], hk, ?_⟩
 rw [hk]
 unfold numsV
 rw [VV.least_eq h4 h5 h3, h2, hn]
theorem boxs_of_cls {V : VV} (h : V.cls ≠ 2) : V.boxs = [] := by cases V <;> simp_all [VV.cls, VV.boxs]
theorem well_fin {d : Nat} {p : PA} (h : wellP d p) (h0 : p.f = 0) : ∀ x ∈ p.l, Fnt x.2.1 := fun x hx => (h.2.2.2 x hx).2.2 (by rw [(h.2.2.2 x hx).1]; exact h0)
theorem arrP_one {d : Nat} {p : PA} (f : p.f = 1) : arrP (d + 1) p = (p.s, .chars (p.l.map (fun x => x.2.2.1))) := by simp only [arrP]; rw [if_pos f]
theorem arrP_two {d : Nat} {p : PA} (f : p.f = 2) : arrP (d + 1) p = (p.s, .boxes (p.l.map fun x => arrP d (hd x.2.2.2))) := by simp only [arrP]; rw [if_neg (by omega), if_pos f]
theorem arrP_zero {d : Nat} {p : PA} (f : p.f = 0) : arrP (d + 1) p = (p.s, numsV p.l) := by simp only [arrP]; rw [if_neg (by omega), if_neg (by omega)]
theorem well_cases {d : Nat} {p : PA} (h : wellP d p) : p.f = 0 ∨ p.f = 1 ∨ p.f = 2 := by have := h.1; have := h.2.1; omega
theorem well_box {d : Nat} {p : PA} (h : wellP d p) (f : p.f = 2) {x : PI} (hx : x ∈ p.l) : ∃ q, x.2.2.2 = [q] ∧ hd x.2.2.2 = q ∧ chk d q = 0 := by
 obtain ⟨h1, h2, _⟩ := h.2.2.2 x hx
 obtain ⟨q, hq, hc⟩ := h2 (h1.trans f)
 exact ⟨q, hq, hd_one hq, hc⟩
theorem chk_pos {d : Nat} {p : PA} (h : chk d p = 0) : ∃ e, d = e + 1 := by
 cases d with
 | zero => simp [chk] at h
 | succ e => exact ⟨e, rfl⟩
/-- What is made of a plain array is good. -/
theorem arrP_good (d : Nat) : ∀ p, chk d p = 0 → gA d (arrP d p) := by
 induction d with
 | zero => intro p h; simp [chk] at h
 | succ d ih =>
  intro p h
  have hw := chk_well.1 h
  have hl := prodR_len hw.2.2.1
  rcases well_cases hw with f | f | f
  ·obtain ⟨h1, h2, h3, h4, h5, h6, h7⟩ := numsV_spec (well_fin hw f) hl.2
   rw [arrP_zero f]
   exact ⟨by simp only; rw [h5]; exact hw.2.2.1, h3, h4, h7, fun a ha => by rw [boxs_of_cls (by rw [h2]; decide)] at ha; simp at ha⟩
  ·rw [arrP_one f]
   refine ⟨by simpa [VV.len] using hw.2.2.1, by simpa [VV.ok] using hl.2, trivial, by rw [VV.least_oth (.inr (by simp [VV.cls]))], fun a ha => by simp [VV.boxs] at ha⟩
  ·rw [arrP_two f]
   refine ⟨by simpa [VV.len] using hw.2.2.1, ⟨by simpa using hl.2, fun a ha => ?_⟩, trivial, by rw [VV.least_oth (.inr (by simp [VV.cls]))], fun a ha => ?_⟩
   ·obtain ⟨x, hx, rfl⟩ := List.mem_map.1 ha
    obtain ⟨q, _, e, hc⟩ := well_box hw f hx
    rw [e]
    have := arrP_s hc
    rw [this.1]; omega
   ·simp only [VV.boxs] at ha
    obtain ⟨x, hx, rfl⟩ := List.mem_map.1 ha
    obtain ⟨q, _, e, hc⟩ := well_box hw f hx
    rw [e]
    exact ih q hc
theorem map_range_eq {α : Type} {l : List α} {g : Nat → PI} {f : α → PI} (h : ∀ i x, l[i]? = some x → g i = f x) : (List.range l.length).map g = l.map f := by
 apply List.ext_getElem?
 intro i
 by_cases hi : i < l.length
 ·have hx : l[i]? = some l[i] := List.getElem?_eq_getElem hi
  simp only [List.getElem?_map, hx, List.getElem?_range hi, Option.map_some]
  rw [h i _ hx]
 ·rw [List.getElem?_eq_none (by simp; omega), List.getElem?_eq_none (by simp; omega)]
/-- .. and told as it was. -/
theorem plA_arrP (d : Nat) : ∀ p, chk d p = 0 → plA d (arrP d p) = tidyP d p := by
 induction d with
 | zero => intro p h; simp [chk] at h
 | succ d ih =>
  intro p h
  have hw := chk_well.1 h
  have hl := prodR_len hw.2.2.1
  rcases well_cases hw with f | f | f
  ·obtain ⟨h1, h2, h3, h4, h5, h6, h7⟩ := numsV_spec (well_fin hw f) hl.2
   rw [arrP_zero f]
   simp only [plA, tidyP]
   rw [h5, h2]
   refine PA.ext rfl ?_ f.symm
   refine map_range_eq fun i x hx => ?_
   have hk := (hw.2.2.2 x (List.mem_of_getElem? hx)).1
   unfold itA tidyI
   rw [if_neg (by rw [h2]; decide), if_neg (by rw [h2]; decide), h1, atI_some (x := ze x.2.1) (by rw [List.getElem?_map, hx]; rfl), hk, f]
   simp
  ·rw [arrP_one f]
   simp only [plA, tidyP, VV.len, VV.cls, List.length_map]
   refine PA.ext rfl ?_ f.symm
   refine map_range_eq fun i x hx => ?_
   have hk := (hw.2.2.2 x (List.mem_of_getElem? hx)).1
   unfold itA tidyI
   rw [if_pos (show VV.cls (VV.chars _) = 1 from rfl)]
   simp only [VV.text]
   rw [atI_some (x := x.2.2.1) (by rw [List.getElem?_map, hx]; rfl), hk, f]
   simp
  ·rw [arrP_two f]
   simp only [plA, tidyP, VV.len, VV.cls, List.length_map]
   refine PA.ext rfl ?_ f.symm
   refine map_range_eq fun i x hx => ?_
   have hk := (hw.2.2.2 x (List.mem_of_getElem? hx)).1
   obtain ⟨q, _, e, hc⟩ := well_box hw f (List.mem_of_getElem? hx)
   unfold itA tidyI
   rw [if_neg (show ¬ VV.cls (VV.boxes _) = 1 by simp [VV.cls]), if_pos (show VV.cls (VV.boxes _) = 2 from rfl)]
   simp only [VV.boxs]
   rw [atI_some (x := arrP d q) (by rw [List.getElem?_map, hx]; simp [e]), ih q hc, hk, f, e]
   simp
theorem nice_tidy (d : Nat) : ∀ p, chk d p = 0 → nice d (tidyP d p) := by
 induction d with
 | zero => intro p h; simp [chk] at h
 | succ d ih =>
  intro p h
  have hw := chk_well.1 h
  intro x hx
  have hx : x ∈ p.l.map (tidyI (tidyP d)) := hx
  obtain ⟨y, hy, rfl⟩ := List.mem_map.1 hx
  obtain ⟨h1, h2, h3⟩ := hw.2.2.2 y hy
  unfold tidyI
  refine ⟨?_, fun q hq => ?_⟩
  ·simp only
   by_cases c : y.1 = 0
   ·rw [if_pos c]; exact ze_num (h3 c)
   ·rw [if_neg c]; exact ⟨fin_zero, fun _ => rfl⟩
  ·simp only at hq
   by_cases c : y.1 = 2
   ·rw [if_pos c] at hq
    obtain ⟨q', hq', hc⟩ := h2 c
    rw [hd_one hq'] at hq
    simp at hq
    subst hq
    exact ih q' hc
   ·rw [if_neg c] at hq; simp at hq
theorem depA_arrP (d : Nat) : ∀ p, chk d p = 0 → depA d (arrP d p) = depP d p := by
 induction d with
 | zero => intro p h; rfl
 | succ d ih =>
  intro p h
  have hw := chk_well.1 h
  have hl := prodR_len hw.2.2.1
  rcases well_cases hw with f | f | f
  ·obtain ⟨h1, h2, _⟩ := numsV_spec (well_fin hw f) hl.2
   rw [arrP_zero f]
   simp only [depA, depP]
   rw [if_neg (show ¬ (numsV p.l).cls = 2 by rw [h2]; decide), if_neg (show ¬ p.f = 2 by omega)]
  ·rw [arrP_one f]
   simp only [depA, depP]
   rw [if_neg (show ¬ VV.cls (VV.chars _) = 2 by simp [VV.cls]), if_neg (show ¬ p.f = 2 by omega)]
  ·rw [arrP_two f]
   simp only [depA, depP]
   rw [if_pos (show VV.cls (VV.boxes _) = 2 from rfl), if_pos f]
   simp only [VV.boxs]
   rw [List.map_map]
   have : (p.l.map (depA d ∘ fun x => arrP d (hd x.2.2.2))) = p.l.map fun x => depP d (hd x.2.2.2) := List.map_congr_left fun x hx => by
    obtain ⟨q, _, e, hc⟩ := well_box hw f hx
    simp only [Function.comp, e]
    exact ih q hc
   rw [this]
   omega
theorem arrP_len {d : Nat} {p : PA} (h : chk d p = 0) : (arrP d p).2.len = p.l.length ∧ (arrP d p).2.cls = p.f ∧ (arrP d p).1 = p.s := by
 obtain ⟨d, rfl⟩ := chk_pos h
 have hw := chk_well.1 h
 have hl := prodR_len hw.2.2.1
 rcases well_cases hw with f | f | f
 ·obtain ⟨h1, h2, h3, h4, h5, _⟩ := numsV_spec (well_fin hw f) hl.2
  rw [arrP_zero f]; exact ⟨h5, h2.trans f.symm, rfl⟩
 ·rw [arrP_one f]; exact ⟨by simp [VV.len], f.symm, rfl⟩
 ·rw [arrP_two f]; exact ⟨by simp [VV.len], f.symm, rfl⟩
/-- Alike ones are kept alike. -/
theorem kind_tidy {d : Nat} {p q : PA} (hp : chk d p = 0) (hq : chk d q = 0) (h : tidyP d p = tidyP d q) : (arrP d p).2.kind = (arrP d q).2.kind := by
 obtain ⟨d, rfl⟩ := chk_pos hp
 have hwp := chk_well.1 hp
 have hwq := chk_well.1 hq
 have hlp := prodR_len hwp.2.2.1
 have hlq := prodR_len hwq.2.2.1
 have hf : p.f = q.f := show (tidyP (d + 1) p).f = (tidyP (d + 1) q).f by rw [h]
 have hl : p.l.map (tidyI (tidyP d)) = q.l.map (tidyI (tidyP d)) := show (tidyP (d + 1) p).l = (tidyP (d + 1) q).l by rw [h]
 rcases well_cases hwp with f | f | f
 ·have f' := hf ▸ f
  obtain ⟨_, _, _, _, _, k1, _⟩ := numsV_spec (well_fin hwp f) hlp.2
  obtain ⟨_, _, _, _, _, k2, _⟩ := numsV_spec (well_fin hwq f') hlq.2
  rw [arrP_zero f, arrP_zero f']
  simp only
  rw [k1, k2]
  have e1 : ∀ {r : PA}, wellP d r → r.f = 0 → r.l.map (fun x => ze x.2.1) = (r.l.map (tidyI (tidyP d))).map (fun x => x.2.1) := by
   intro r hr h0
   rw [List.map_map]
   refine List.map_congr_left fun x hx => ?_
   have := (hr.2.2.2 x hx).1
   simp only [Function.comp, tidyI]
   rw [if_pos (by omega)]
  rw [e1 hwp f, e1 hwq f', hl]
 ·rw [arrP_one f, arrP_one (hf ▸ f)]; rfl
 ·rw [arrP_two f, arrP_two (hf ▸ f)]; rfl
end Go.Proofs.YtbdhibcbpgjbmaaGreatDoor
