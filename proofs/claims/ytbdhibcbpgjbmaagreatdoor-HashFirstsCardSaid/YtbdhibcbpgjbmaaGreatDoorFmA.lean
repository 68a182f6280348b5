/- Package flat, walked: Join. -/
import Derived.Test.YtbdhibcbpgjbmaaGreatDoorFlZ
import Derived.Test.YtbdhibcbpgjbmaaGreatDoorFlM
namespace Go.Proofs.YtbdhibcbpgjbmaaGreatDoor
set_option maxRecDepth 100000
open Go.RowKit Fl
set_option linter.unusedVariables false

def comK : List (Value × VV) → Int
 | [] => 0 | p :: Z => comZ p.2.kind (p :: Z)
noncomputable def joinB (Z : List (Value × VV)) : Bool := if fullZ Z = [] then true else if comK (fullZ Z) = 0 ∨ 1048576 < lensZ (fullZ Z) then false else true
noncomputable def joinZ (Z : List (Value × VV)) : VV :=
 if fullZ Z = [] then noneV (clsZ Z) else if comK (fullZ Z) = 0 ∨ 1048576 < lensZ (fullZ Z) then .none else
 if comK (fullZ Z) = 1 then .bits ((fullZ Z).flatMap fun p => p.2.packed) else if comK (fullZ Z) = 5 then .chars ((fullZ Z).flatMap fun p => p.2.text) else
 if comK (fullZ Z) = 6 then .boxes ((fullZ Z).flatMap fun p => p.2.boxs) else (VV.floats ((fullZ Z).flatMap fun p => p.2.nums)).sq
/-- What a join takes: vectors that are as they should be. -/
def JoinIn (Z : List (Value × VV)) : Prop := ∀ p ∈ Z, p.2.ok ∧ p.2.nm ∧ ∀ a ∈ p.2.boxs, a.1.length ≤ 1048576
theorem fullZ_mem {Z : List (Value × VV)} {p : Value × VV} (h : p ∈ fullZ Z) : p ∈ Z ∧ 0 < p.2.len := by
 unfold fullZ at h
 have := List.mem_filter.1 h
 exact ⟨this.1, by simpa using this.2⟩
theorem fullZ_len (Z : List (Value × VV)) : (fullZ Z).length ≤ Z.length := List.length_filter_le _ _
theorem commonK_keep {a b : Int} (h : commonK a b ≠ 0) : a ≠ 0 ∧ ((a = b ∧ commonK a b = a) ∨ ((1 ≤ a ∧ a ≤ 4) ∧ (1 ≤ b ∧ b ≤ 4) ∧ commonK a b = max a b)) := by
 unfold commonK at h ⊢
 by_cases e : a = b
 ·rw [if_pos e] at h ⊢; exact ⟨h, Or.inl ⟨e, rfl⟩⟩
 ·rw [if_neg e] at h ⊢
  by_cases e2 : (1 ≤ a ∧ a ≤ 4) ∧ 1 ≤ b ∧ b ≤ 4
  ·rw [if_pos e2]; exact ⟨by omega, Or.inr ⟨e2.1, e2.2, rfl⟩⟩
  ·rw [if_neg e2] at h; exact absurd rfl h
/-- What all have where a common kind is found. -/
theorem comZ_all {Z : List (Value × VV)} : ∀ {k0 : Int}, comZ k0 Z ≠ 0 → k0 ≠ 0 ∧ (1 ≤ comZ k0 Z ∧ comZ k0 Z ≤ 4 → (1 ≤ k0 ∧ k0 ≤ comZ k0 Z) ∧ ∀ p ∈ Z, 1 ≤ p.2.kind ∧ p.2.kind ≤ comZ k0 Z) ∧ (¬ (1 ≤ comZ k0 Z ∧ comZ k0 Z ≤ 4) → k0 = comZ k0 Z ∧ ∀ p ∈ Z, p.2.kind = comZ k0 Z) := by
 induction Z with
 | nil => intro k0 h; exact ⟨h, fun h1 => ⟨⟨h1.1, Int.le_refl _⟩, fun p hp => by cases hp⟩, fun _ => ⟨rfl, fun p hp => by cases hp⟩⟩
 | cons q Z ih =>
  intro k0 h
  obtain ⟨r, hr⟩ : ∃ r, r = commonK k0 q.2.kind := ⟨_, rfl⟩
  have e : comZ k0 (q :: Z) = comZ r Z := by rw [hr]; rfl
  rw [e] at h ⊢
  obtain ⟨h1, h2, h3⟩ := ih h
  obtain ⟨h4, h5⟩ := commonK_keep (by rw [← hr]; exact h1)
  rw [← hr] at h5
  refine ⟨h4, fun hr => ?_, fun hr => ?_⟩
  ·obtain ⟨⟨a1, a2⟩, a3⟩ := h2 hr
   rcases h5 with ⟨b1, b2⟩ | ⟨b1, b2, b3⟩
   ·refine ⟨⟨by omega, by omega⟩, fun p hp => ?_⟩
    rcases List.mem_cons.1 hp with rfl | hp
    ·exact ⟨by omega, by omega⟩
    ·exact a3 p hp
   ·refine ⟨⟨b1.1, by omega⟩, fun p hp => ?_⟩
    rcases List.mem_cons.1 hp with rfl | hp
    ·exact ⟨b2.1, by omega⟩
    ·exact a3 p hp
  ·obtain ⟨a1, a2⟩ := h3 hr
   rcases h5 with ⟨b1, b2⟩ | ⟨b1, b2, b3⟩
   ·refine ⟨by omega, fun p hp => ?_⟩
    rcases List.mem_cons.1 hp with rfl | hp
    ·omega
    ·exact a2 p hp
   ·exfalso; apply hr; omega
theorem flat_sum {α : Type} {Z : List (Value × VV)} {f : VV → List α} (h : ∀ p ∈ Z, (f p.2).length = p.2.len) : (Z.flatMap fun p => f p.2).length = lensZ Z := by
 induction Z with
 | nil => rfl
 | cons p Z ih =>
  rw [List.flatMap_cons, List.length_append, h p (List.mem_cons_self ..), ih (fun q hq => h q (List.mem_cons_of_mem _ hq))]
  simp [lensZ]
theorem VV.kind_bit {V : VV} (h : V.kind = 1) : V.isBit = true := by cases V <;> simp_all [VV.kind, VV.isBit]
theorem VV.kind_char {V : VV} (h : V.kind = 5) : V.cls = 1 := by cases V <;> simp_all [VV.kind, VV.cls]
theorem VV.kind_box {V : VV} (h : V.kind = 6) : V.cls = 2 := by cases V <;> simp_all [VV.kind, VV.cls]
theorem VV.kind_num {V : VV} (h : 1 ≤ V.kind ∧ V.kind ≤ 4) : V.cls = 0 := by cases V <;> simp_all [VV.kind, VV.cls]
theorem VV.kind_le (V : VV) : 0 ≤ V.kind ∧ V.kind ≤ 6 := by cases V <;> simp [VV.kind]

end Go.Proofs.YtbdhibcbpgjbmaaGreatDoor
