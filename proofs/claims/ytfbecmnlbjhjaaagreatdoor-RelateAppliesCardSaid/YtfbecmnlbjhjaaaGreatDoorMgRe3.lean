/- Merged: ReK, ReN, ReO. -/
import Derived.Test.YtfbecmnlbjhjaaaGreatDoorMgRe2
import Derived.Test.YtfbecmnlbjhjaaaGreatDoorMgRe1
import Derived.Test.YtfbecmnlbjhjaaaGreatDoorMgVa1
/- Layer 11's reference: Apply, whole. -/
namespace Go.Proofs.YtfbecmnlbjhjaaaGreatDoor
set_option maxRecDepth 100000
open Go.RowKit Fl
set_option linter.unusedVariables false

/-- The reference's Apply: the error. -/
def rrE (f x y : Int) (m n : Nat) : Int :=
  if 11 ≤ f ∧ f ≤ 16 then (if goesA m n then (if alw f x = true ∧ alw f y = true then 0 else 24) else 23) else 1
/-- An error told, and no row. -/
def ToldNo (er : Int) (w : World) (e : Ending) (w' : World) : Prop := e = .returned (.tuple #[.slice none 0 0, .int .i64 er]) ∧ w = w'
theorem rrno1_calls {okA okB : Nat → Prop} (f x y : Int) (va vb : Value) (la lb : List PI) (w : World) (hva : Its w okA va la) (hvb : Its w okB vb lb) (hf : ¬ (11 ≤ f ∧ f ≤ 16)) : Calls Tryz.prog 9 #[.int .i64 f, va, .int .i64 x, vb, .int .i64 y] w (ToldNo 1 w) := by
  obtain ⟨ao, cap, rfl, _, _⟩ := hva.len
  obtain ⟨bo, cbp, rfl, _, _⟩ := hvb.len
  clear hva hvb
  by_cases h1 : f < 11
  · clear hf
    go_enter Tryz.func9, Tryz.ntmps9
    go_wp2
    go_ret2
    exact ⟨rfl, rfl⟩
  · have h2 : 16 < f := by omega
    clear hf
    go_enter Tryz.func9, Tryz.ntmps9
    go_wp2
    go_ret2
    exact ⟨rfl, rfl⟩
theorem rrno23_calls {okA okB : Nat → Prop} (f x y : Int) (va vb : Value) (la lb : List PI) (w : World) (hva : Its w okA va la) (hvb : Its w okB vb lb) (hf : 11 ≤ f ∧ f ≤ 16) (hg : ¬ goesA la.length lb.length) : Calls Tryz.prog 9 #[.int .i64 f, va, .int .i64 x, vb, .int .i64 y] w (ToldNo 23 w) := by
  obtain ⟨ao, cap, rfl, _, _⟩ := hva.len
  obtain ⟨bo, cbp, rfl, _, _⟩ := hvb.len
  clear hva hvb
  have h1 : ¬ f < 11 := by omega
  have h2 : ¬ 16 < f := by omega
  have HG := Lib.hid hg
  clear hf hg
  go_enter Tryz.func9, Tryz.ntmps9
  go_wp2_with (refine (ralen_no _ _ _ HG.out).mono ?_; rintro e w' ⟨rfl, rfl⟩)
  go_ret2
  exact ⟨rfl, rfl⟩
theorem rrno24_20 {okA okB : Nat → Prop} (f : Int) (va vb : Value) (la lb : List PI) (w : World) (hva : Its w okA va la) (hvb : Its w okB vb lb) (hf : 11 ≤ f ∧ f ≤ 16) (hg : goesA la.length lb.length) : Calls Tryz.prog 9 #[.int .i64 f, va, .int .i64 2, vb, .int .i64 0] w (ToldNo 24 w) := by
  obtain ⟨ao, cap, rfl, _, _⟩ := hva.len
  obtain ⟨bo, cbp, rfl, _, _⟩ := hvb.len
  clear hva hvb
  have h1 : ¬ f < 11 := by omega
  have h2 : ¬ 16 < f := by omega
  have HG := Lib.hid hg
  clear hf hg
  go_enter Tryz.func9, Tryz.ntmps9
  go_wp2_with (refine (ralen_yes _ _ _ HG.out).mono ?_; rintro e w' ⟨rfl, rfl⟩)
  go_ret2
  exact ⟨rfl, rfl⟩
theorem rrno24_21 {okA okB : Nat → Prop} (f : Int) (va vb : Value) (la lb : List PI) (w : World) (hva : Its w okA va la) (hvb : Its w okB vb lb) (hf : 11 ≤ f ∧ f ≤ 16) (hg : goesA la.length lb.length) : Calls Tryz.prog 9 #[.int .i64 f, va, .int .i64 2, vb, .int .i64 1] w (ToldNo 24 w) := by
  obtain ⟨ao, cap, rfl, _, _⟩ := hva.len
  obtain ⟨bo, cbp, rfl, _, _⟩ := hvb.len
  clear hva hvb
  have h1 : ¬ f < 11 := by omega
  have h2 : ¬ 16 < f := by omega
  have HG := Lib.hid hg
  clear hf hg
  go_enter Tryz.func9, Tryz.ntmps9
  go_wp2_with (refine (ralen_yes _ _ _ HG.out).mono ?_; rintro e w' ⟨rfl, rfl⟩)
  go_ret2
  exact ⟨rfl, rfl⟩
theorem rrno24_22 {okA okB : Nat → Prop} (f : Int) (va vb : Value) (la lb : List PI) (w : World) (hva : Its w okA va la) (hvb : Its w okB vb lb) (hf : 11 ≤ f ∧ f ≤ 16) (hg : goesA la.length lb.length) : Calls Tryz.prog 9 #[.int .i64 f, va, .int .i64 2, vb, .int .i64 2] w (ToldNo 24 w) := by
  obtain ⟨ao, cap, rfl, _, _⟩ := hva.len
  obtain ⟨bo, cbp, rfl, _, _⟩ := hvb.len
  clear hva hvb
  have h1 : ¬ f < 11 := by omega
  have h2 : ¬ 16 < f := by omega
  have HG := Lib.hid hg
  clear hf hg
  go_enter Tryz.func9, Tryz.ntmps9
  go_wp2_with (refine (ralen_yes _ _ _ HG.out).mono ?_; rintro e w' ⟨rfl, rfl⟩)
  go_ret2
  exact ⟨rfl, rfl⟩
theorem rrno24_02 {okA okB : Nat → Prop} (f : Int) (va vb : Value) (la lb : List PI) (w : World) (hva : Its w okA va la) (hvb : Its w okB vb lb) (hf : 11 ≤ f ∧ f ≤ 16) (hg : goesA la.length lb.length) : Calls Tryz.prog 9 #[.int .i64 f, va, .int .i64 0, vb, .int .i64 2] w (ToldNo 24 w) := by
  obtain ⟨ao, cap, rfl, _, _⟩ := hva.len
  obtain ⟨bo, cbp, rfl, _, _⟩ := hvb.len
  clear hva hvb
  have h1 : ¬ f < 11 := by omega
  have h2 : ¬ 16 < f := by omega
  have HG := Lib.hid hg
  clear hf hg
  go_enter Tryz.func9, Tryz.ntmps9
  go_wp2_with (refine (ralen_yes _ _ _ HG.out).mono ?_; rintro e w' ⟨rfl, rfl⟩)
  go_ret2
  exact ⟨rfl, rfl⟩
theorem rrno24_12 {okA okB : Nat → Prop} (f : Int) (va vb : Value) (la lb : List PI) (w : World) (hva : Its w okA va la) (hvb : Its w okB vb lb) (hf : 11 ≤ f ∧ f ≤ 16) (hg : goesA la.length lb.length) : Calls Tryz.prog 9 #[.int .i64 f, va, .int .i64 1, vb, .int .i64 2] w (ToldNo 24 w) := by
  obtain ⟨ao, cap, rfl, _, _⟩ := hva.len
  obtain ⟨bo, cbp, rfl, _, _⟩ := hvb.len
  clear hva hvb
  have h1 : ¬ f < 11 := by omega
  have h2 : ¬ 16 < f := by omega
  have HG := Lib.hid hg
  clear hf hg
  go_enter Tryz.func9, Tryz.ntmps9
  go_wp2_with (refine (ralen_yes _ _ _ HG.out).mono ?_; rintro e w' ⟨rfl, rfl⟩)
  go_ret2
  exact ⟨rfl, rfl⟩
theorem rrno24_10 {okA okB : Nat → Prop} (f : Int) (va vb : Value) (la lb : List PI) (w : World) (hva : Its w okA va la) (hvb : Its w okB vb lb) (hf : 11 ≤ f ∧ f ≤ 16) (hg : goesA la.length lb.length) (h13 : f ≠ 13) (h16 : f ≠ 16) : Calls Tryz.prog 9 #[.int .i64 f, va, .int .i64 1, vb, .int .i64 0] w (ToldNo 24 w) := by
  obtain ⟨ao, cap, rfl, _, _⟩ := hva.len
  obtain ⟨bo, cbp, rfl, _, _⟩ := hvb.len
  clear hva hvb
  have h1 : ¬ f < 11 := by omega
  have h2 : ¬ 16 < f := by omega
  have HG := Lib.hid hg
  have h13b : (f != 13) = true := by simpa using h13
  have h16b : (f != 16) = true := by simpa using h16
  clear h13 h16
  clear hf hg
  go_enter Tryz.func9, Tryz.ntmps9
  go_wp2_with (refine (ralen_yes _ _ _ HG.out).mono ?_; rintro e w' ⟨rfl, rfl⟩)
  go_ret2
  exact ⟨rfl, rfl⟩
theorem rrno24_01 {okA okB : Nat → Prop} (f : Int) (va vb : Value) (la lb : List PI) (w : World) (hva : Its w okA va la) (hvb : Its w okB vb lb) (hf : 11 ≤ f ∧ f ≤ 16) (hg : goesA la.length lb.length) (h13 : f ≠ 13) (h16 : f ≠ 16) : Calls Tryz.prog 9 #[.int .i64 f, va, .int .i64 0, vb, .int .i64 1] w (ToldNo 24 w) := by
  obtain ⟨ao, cap, rfl, _, _⟩ := hva.len
  obtain ⟨bo, cbp, rfl, _, _⟩ := hvb.len
  clear hva hvb
  have h1 : ¬ f < 11 := by omega
  have h2 : ¬ 16 < f := by omega
  have HG := Lib.hid hg
  have h13b : (f != 13) = true := by simpa using h13
  have h16b : (f != 16) = true := by simpa using h16
  clear h13 h16
  clear hf hg
  go_enter Tryz.func9, Tryz.ntmps9
  go_wp2_with (refine (ralen_yes _ _ _ HG.out).mono ?_; rintro e w' ⟨rfl, rfl⟩)
  go_ret2
  exact ⟨rfl, rfl⟩
theorem rrno24_11 {okA okB : Nat → Prop} (f : Int) (va vb : Value) (la lb : List PI) (w : World) (hva : Its w okA va la) (hvb : Its w okB vb lb) (hf : 11 ≤ f ∧ f ≤ 16) (hg : goesA la.length lb.length) (h13 : f ≠ 13) (h16 : f ≠ 16) : Calls Tryz.prog 9 #[.int .i64 f, va, .int .i64 1, vb, .int .i64 1] w (ToldNo 24 w) := by
  obtain ⟨ao, cap, rfl, _, _⟩ := hva.len
  obtain ⟨bo, cbp, rfl, _, _⟩ := hvb.len
  clear hva hvb
  have h1 : ¬ f < 11 := by omega
  have h2 : ¬ 16 < f := by omega
  have HG := Lib.hid hg
  have h13b : (f != 13) = true := by simpa using h13
  have h16b : (f != 16) = true := by simpa using h16
  clear h13 h16
  clear hf hg
  go_enter Tryz.func9, Tryz.ntmps9
  go_wp2_with (refine (ralen_yes _ _ _ HG.out).mono ?_; rintro e w' ⟨rfl, rfl⟩)
  go_ret2
  exact ⟨rfl, rfl⟩
theorem rrno24_calls {okA okB : Nat → Prop} (f x y : Int) (hx : x = 0 ∨ x = 1 ∨ x = 2) (hy : y = 0 ∨ y = 1 ∨ y = 2) (va vb : Value) (la lb : List PI) (w : World) (hva : Its w okA va la) (hvb : Its w okB vb lb) (hf : 11 ≤ f ∧ f ≤ 16) (hg : goesA la.length lb.length) (hc : ¬ (alw f x = true ∧ alw f y = true)) : Calls Tryz.prog 9 #[.int .i64 f, va, .int .i64 x, vb, .int .i64 y] w (ToldNo 24 w) := by
  have hn : ∀ c d : Int, (c = 0 ∨ c = 1) → (d = 0 ∨ d = 1) → ¬ (alw f c = true ∧ alw f d = true) → f ≠ 13 ∧ f ≠ 16 := by
    intro c d h1 h2 h3
    refine ⟨fun e => h3 ?_, fun e => h3 ?_⟩ <;> subst e <;> rcases h1 with rfl | rfl <;> rcases h2 with rfl | rfl <;> decide
  rcases hx with rfl | rfl | rfl <;> rcases hy with rfl | rfl | rfl
  · exact absurd ⟨decide_eq_true (Or.inl rfl), decide_eq_true (Or.inl rfl)⟩ hc
  · exact rrno24_01 f va vb la lb w hva hvb hf hg (hn _ _ (by decide) (by decide) hc).1 (hn _ _ (by decide) (by decide) hc).2
  · exact rrno24_02 f va vb la lb w hva hvb hf hg
  · exact rrno24_10 f va vb la lb w hva hvb hf hg (hn _ _ (by decide) (by decide) hc).1 (hn _ _ (by decide) (by decide) hc).2
  · exact rrno24_11 f va vb la lb w hva hvb hf hg (hn _ _ (by decide) (by decide) hc).1 (hn _ _ (by decide) (by decide) hc).2
  · exact rrno24_12 f va vb la lb w hva hvb hf hg
  · exact rrno24_20 f va vb la lb w hva hvb hf hg
  · exact rrno24_21 f va vb la lb w hva hvb hf hg
  · exact rrno24_22 f va vb la lb w hva hvb hf hg
theorem rryes_calls {okA okB : Nat → Prop} (f x y : Int) (va vb : Value) (la lb : List PI) (w : World) (hva : Its w okA va la) (hvb : Its w okB vb lb) (hla : la.length ≤ 1048576) (hlb : lb.length ≤ 1048576) (fa : ∀ p ∈ la, Fnt p.2.1) (fb : ∀ p ∈ lb, Fnt p.2.1) (hf : 11 ≤ f ∧ f ≤ 16) (hg : goesA la.length lb.length) (hc : alw f x = true ∧ alw f y = true) : Calls Tryz.prog 9 #[.int .i64 f, va, .int .i64 x, vb, .int .i64 y] w (Told (rrL f x y la lb) w) := by
  rcases alw_cls hc.1 with rfl | ⟨rfl, h1⟩ <;> rcases alw_cls hc.2 with rfl | ⟨rfl, h2⟩
  · exact rrnum_calls f hf va vb la lb w hva hvb hla hlb fa fb hg
  · rcases h2 with rfl | rfl
    · exact rr1301_calls va vb la lb w hva hvb hla hlb fa fb hg
    · exact rr1601_calls va vb la lb w hva hvb hla hlb fa fb hg
  · rcases h1 with rfl | rfl
    · exact rr1310_calls va vb la lb w hva hvb hla hlb fa fb hg
    · exact rr1610_calls va vb la lb w hva hvb hla hlb fa fb hg
  · rcases h1 with rfl | rfl
    · exact rr1311_calls va vb la lb w hva hvb hla hlb fa fb hg
    · exact rr1611_calls va vb la lb w hva hvb hla hlb fa fb hg
/-- The row that the reference tells. -/
def rrR (f x y : Int) (la lb : List PI) : List Bool := if rrE f x y la.length lb.length = 0 then rrL f x y la lb else []
theorem rrapply_calls {okA okB : Nat → Prop} (f x y : Int) (hx : x = 0 ∨ x = 1 ∨ x = 2) (hy : y = 0 ∨ y = 1 ∨ y = 2) (va vb : Value) (la lb : List PI) (w : World) (hva : Its w okA va la) (hvb : Its w okB vb lb) (hla : la.length ≤ 1048576) (hlb : lb.length ≤ 1048576) (fa : ∀ p ∈ la, Fnt p.2.1) (fb : ∀ p ∈ lb, Fnt p.2.1) :
    Calls Tryz.prog 9 #[.int .i64 f, va, .int .i64 x, vb, .int .i64 y] w fun e w' => ∃ v, e = .returned (.tuple #[v, .int .i64 (rrE f x y la.length lb.length)]) ∧ Slc w' (fun b => w.heap.size ≤ b) v (rrR f x y la lb).length (bools (rrR f x y la lb)) ∧ Below w.heap.size w w' := by
  have no : ∀ er : Int, er ≠ 0 → rrE f x y la.length lb.length = er → Calls Tryz.prog 9 #[.int .i64 f, va, .int .i64 x, vb, .int .i64 y] w (ToldNo er w) → Calls Tryz.prog 9 #[.int .i64 f, va, .int .i64 x, vb, .int .i64 y] w fun e w' => ∃ v, e = .returned (.tuple #[v, .int .i64 (rrE f x y la.length lb.length)]) ∧ Slc w' (fun b => w.heap.size ≤ b) v (rrR f x y la lb).length (bools (rrR f x y la lb)) ∧ Below w.heap.size w w' := by
    intro er h0 he hh
    have hR : rrR f x y la lb = [] := if_neg (by rw [he]; exact h0)
    rw [he, hR]
    refine hh.mono ?_
    rintro e w' ⟨rfl, rfl⟩
    exact ⟨_, rfl, Slc.nil _ _, Below.refl _ _⟩
  by_cases hf : 11 ≤ f ∧ f ≤ 16
  · by_cases hg : goesA la.length lb.length
    · by_cases hc : alw f x = true ∧ alw f y = true
      · have he : rrE f x y la.length lb.length = 0 := by unfold rrE; rw [if_pos hf, if_pos hg, if_pos hc]
        have hR : rrR f x y la lb = rrL f x y la lb := if_pos he
        rw [he, hR]
        exact rryes_calls f x y va vb la lb w hva hvb hla hlb fa fb hf hg hc
      · exact no 24 (by decide) (by unfold rrE; rw [if_pos hf, if_pos hg, if_neg hc]) (rrno24_calls f x y hx hy va vb la lb w hva hvb hf hg hc)
    · exact no 23 (by decide) (by unfold rrE; rw [if_pos hf, if_neg hg]) (rrno23_calls f x y va vb la lb w hva hvb hf hg)
  · exact no 1 (by decide) (if_neg hf) (rrno1_calls f x y va vb la lb w hva hvb hf)
end Go.Proofs.YtfbecmnlbjhjaaaGreatDoor

/- Layer 11's law RelateApplies: good, the walk. -/
namespace Go.Proofs.YtfbecmnlbjhjaaaGreatDoor
open Go.RowKit Fl
set_option linter.unusedVariables false
set_option maxRecDepth 100000

def GoodIs11 (p : PA) (w : World) (e : Ending) (w' : World) : Prop := ∃ g : Bool, e = .returned (.bool g) ∧ (g = true → chk 40 p = 0) ∧ Below w.heap.size w w'

set_option maxHeartbeats 4000000 in
theorem good11_calls (ok : Nat → Prop) (p : PA) (u : Value) (n : Nat) (w : World) (hl : lo n p) (hp : IsP w ok u p) :
    Calls Tryz.prog 4 #[u] w (GoodIs11 p w) := by
  have HP := Lib.hid hp
  have HL := Lib.hid hl
  obtain ⟨so, sc, io, ic, rfl, hs, hit⟩ := hp.opened
  obtain ⟨W1, hW1⟩ : ∃ W1, W1 = w.alloc (.cells #[.slice so p.s.length sc, .slice io p.l.length ic, .int .i64 p.f] 25) := ⟨_, rfl⟩
  have HB := Lib.hid (show Below w.heap.size w W1 by rw [hW1]; exact below_new _ _)
  have HA := Lib.hid (show At3 W1 w.heap.size (.slice so p.s.length sc) (.slice io p.l.length ic) (.int .i64 p.f) by rw [hW1]; exact At3.new w _ _ _ _)
  have HI := Lib.hid (show IsP W1 ok _ p from HP.out.grow HB.out)
  have hfold := hW1.symm
  obtain ⟨cc, hcc⟩ : ∃ cc, cc = chk 40 p := ⟨_, rfl⟩
  have HCC := Lib.hid hcc
  clear hs hit hp hl hW1 hcc
  have cHA0 := HA.out.2.1
  have cHA1 := HA.out.2.2.1
  have cHA2 := HA.out.2.2.2.1
  go_enter Tryz.func4, Tryz.ntmps4
  go_wp2_with fail
  clear hfold
  refine (pcount_calls n _ p _ _ _ HL.out HI.out).mono ?_
  rintro e W11 ⟨cn, rfl, hB⟩
  clear cHA0 cHA1 cHA2
  replace HA := Lib.hid (HA.out.below hB)
  replace HB := Lib.hid (HB.out.trans (hB.mono HB.out.size))
  replace HI := Lib.hid (HI.out.grow hB)
  clear hB
  have cHA0 := HA.out.2.1
  have cHA1 := HA.out.2.2.1
  have cHA2 := HA.out.2.2.2.1
  by_cases hcn : cn ≤ 2000
  rotate_left
  · go_wp2_with fail
    go_ret
    exact ⟨false, rfl, (fun h => by cases h), HB.out⟩
  go_wp2_with fail
  refine (vCheck_calls _ p _ n _ HL.out HI.out).mono ?_
  rintro e W12 ⟨rfl, hB⟩
  clear cHA0 cHA1 cHA2
  replace HA := Lib.hid (HA.out.below hB)
  replace HB := Lib.hid (HB.out.trans (hB.mono HB.out.size))
  replace HI := Lib.hid (HI.out.grow hB)
  rw [← HCC.out]
  clear hB
  have cHA0 := HA.out.2.1
  have cHA1 := HA.out.2.2.1
  have cHA2 := HA.out.2.2.2.1
  by_cases hc0 : cc = 0
  · have HC0 := Lib.hid hc0
    have hce : (cc == 0) = true := by simpa using hc0
    clear hc0
    go_wp2_with fail
    go_ret
    exact ⟨true, rfl, (fun h => by exact HCC.out ▸ HC0.out), HB.out⟩
  · have HC0 := Lib.hid hc0
    have hce : (cc == 0) = false := by simpa using hc0
    clear hc0
    go_wp2_with fail
    go_ret
    exact ⟨false, rfl, (fun h => by cases h), HB.out⟩


theorem reE_rr (f : Int) (A B : VV) : rrE f A.cls B.cls A.len B.len = reE f A B := rfl
/-- What Packed tells of what Apply tells. -/
theorem reV_packed {f : Int} {A B : VV} : (reV f A B).packed = (if reE f A B = 0 then relL f A B (lenN A.len B.len) else []) ∧ (reV f A B).isBit = decide (reE f A B = 0) := by
  unfold reV
  by_cases h : reE f A B = 0
  · rw [if_pos h, if_pos h, decide_eq_true h]; exact ⟨rfl, rfl⟩
  · rw [if_neg h, if_neg h, decide_eq_false h]; exact ⟨rfl, rfl⟩
theorem reV_set {f : Int} {A B : VV} {w : World} {u : Value} (h : IsV w (fun _ => True) u (reV f A B)) {p : Addr} (hp : w.cell? p = some .nilIface) (x : Value) : IsV (w.setCell p x) (fun _ => True) u (reV f A B) := by
  unfold reV at h ⊢
  split
  · rename_i h0
    rw [if_pos h0] at h
    exact h.bits_set hp (.inl rfl) x
  · rename_i h0
    rw [if_neg h0] at h
    cases h; exact .none
theorem field_arr11 (x y : Value) (w : World) : (Instr.field 35 (.agg #[x, y]) 1).run Tryz.prog w = .ok (.agg #[y]) w := by kernel_rfl
theorem rr_row {d : Nat} {f : Int} {A B : VV} : rrR f A.cls B.cls (itsA d A) (itsA d B) = (if reE f A B = 0 then relL f A B (lenN A.len B.len) else []) := by
  unfold rrR
  rw [itsA_len, itsA_len, reE_rr]
  by_cases h : reE f A B = 0
  · rw [if_pos h, if_pos h]
    have h2 := h
    unfold reE at h2
    split at h2
    · split at h2
      · split at h2
        · rename_i h3 h4 h5
          exact rrL_its h5.1 h5.2 h4
        · cases h2
      · cases h2
    · cases h2
  · rw [if_neg h, if_neg h]
set_option maxHeartbeats 8000000 in
theorem relateApplies_walk (f : Int) (p q : PA) (u v : Value) (n m : Nat) (w : World) (hl : lo n p) (hm : lo m q) (hp : IsP w (fun _ => True) u p) (hq : IsP w (fun _ => True) v q) (hT : TabAt w) : Calls Tryz.prog 3 #[.int .i64 f, u, v] w (Yes11 w) := by
  have HP := Lib.hid hp
  have HQ := Lib.hid hq
  obtain ⟨so, sc, io, ic, rfl, hs, hit⟩ := hp.opened
  obtain ⟨so2, sc2, io2, ic2, rfl, hs2, hit2⟩ := hq.opened
  have HL := Lib.hid (And.intro hl hm)
  obtain ⟨W1, hW1⟩ : ∃ W1, W1 = (w.alloc (.cells #[.slice so p.s.length sc, .slice io p.l.length ic, .int .i64 p.f] 25)).alloc (.cells #[.slice so2 q.s.length sc2, .slice io2 q.l.length ic2, .int .i64 q.f] 25) := ⟨_, rfl⟩
  have HA := Lib.hid (show At3 W1 w.heap.size (.slice so p.s.length sc) (.slice io p.l.length ic) (.int .i64 p.f) by rw [hW1]; exact (At3.new w _ _ _ _).below (below_new _ _))
  have HA2 := Lib.hid (show At3 W1 (w.heap.size + 1) (.slice so2 q.s.length sc2) (.slice io2 q.l.length ic2) (.int .i64 q.f) by rw [hW1]; have := At3.new (w.alloc (.cells #[.slice so p.s.length sc, .slice io p.l.length ic, .int .i64 p.f] 25)) (.slice so2 q.s.length sc2) (.slice io2 q.l.length ic2) (.int .i64 q.f) 25; simpa using this)
  have HB := Lib.hid (show Below w.heap.size w W1 by rw [hW1]; exact (below_new _ _).alloc (by simp) _)
  have HI := Lib.hid (show IsP W1 (fun b => b < w.heap.size) _ p from (HP.out.wide (fun b h _ => h)).grow HB.out)
  have HI2 := Lib.hid (show IsP W1 (fun b => b < w.heap.size) _ q from (HQ.out.wide (fun b h _ => h)).grow HB.out)
  have HT := Lib.hid (show TabAt W1 from fun j hj => keep_below HB.out _ _ (hT j hj))
  obtain ⟨X, hX⟩ : ∃ X, X = tidyP 40 p := ⟨_, rfl⟩
  obtain ⟨Y, hY⟩ : ∃ Y, Y = tidyP 40 q := ⟨_, rfl⟩
  have HXE := Lib.hid (And.intro hX hY)
  obtain ⟨A, hA⟩ : ∃ A, A = (arrP 40 p).2 := ⟨_, rfl⟩
  obtain ⟨B, hB⟩ : ∃ B, B = (arrP 40 q).2 := ⟨_, rfl⟩
  have HAE := Lib.hid (And.intro hA hB)
  have HFW := Lib.hid hW1.symm
  clear hs hit hp hl hs2 hit2 hq hm hT hW1 hX hY hA hB
  go_enter Tryz.func3, Tryz.ntmps3
  go_wp2_with fail
  rw [HFW.out]
  refine (good11_calls _ p _ n _ HL.out.1 HI.out).mono ?_
  rintro e W11 ⟨g1, rfl, hg1, hB⟩
  replace HA := Lib.hid (HA.out.below hB)
  replace HA2 := Lib.hid (HA2.out.below hB)
  replace HB := Lib.hid (HB.out.trans (hB.mono HB.out.size))
  replace HI := Lib.hid (HI.out.grow hB)
  replace HI2 := Lib.hid (HI2.out.grow hB)
  replace HT := Lib.hid (fun j hj => keep_below hB _ _ (HT.out j hj))
  have HG1 := Lib.hid hg1
  clear hg1
  clear hB
  have cHA0 := HA.out.2.1
  have cHA1 := HA.out.2.2.1
  have cHA2 := HA.out.2.2.2.1
  have cHA20 := HA2.out.2.1
  have cHA21 := HA2.out.2.2.1
  have cHA22 := HA2.out.2.2.2.1
  cases g1
  · go_wp2_with fail
    refine (awake11_calls _ HT.out).mono ?_
    rintro e W12 ⟨rfl, hB⟩
    clear cHA0 cHA1 cHA2 cHA20 cHA21 cHA22
    replace HA := Lib.hid (HA.out.below hB)
    replace HA2 := Lib.hid (HA2.out.below hB)
    replace HB := Lib.hid (HB.out.trans (hB.mono HB.out.size))
    replace HI := Lib.hid (HI.out.grow hB)
    replace HI2 := Lib.hid (HI2.out.grow hB)
    replace HT := Lib.hid (fun j hj => keep_below hB _ _ (HT.out j hj))
    clear hB
    have cHA0 := HA.out.2.1
    have cHA1 := HA.out.2.2.1
    have cHA2 := HA.out.2.2.2.1
    have cHA20 := HA2.out.2.1
    have cHA21 := HA2.out.2.2.1
    have cHA22 := HA2.out.2.2.2.1
    go_wp2_with fail
    go_ret
    exact ⟨rfl, HB.out⟩
  have HCP := Lib.hid (HG1.out rfl)
  clear HG1
  go_wp2_with fail
  refine (good11_calls _ q _ m _ HL.out.2 HI2.out).mono ?_
  rintro e W12 ⟨g2, rfl, hg2, hB⟩
  clear cHA0 cHA1 cHA2 cHA20 cHA21 cHA22
  replace HA := Lib.hid (HA.out.below hB)
  replace HA2 := Lib.hid (HA2.out.below hB)
  replace HB := Lib.hid (HB.out.trans (hB.mono HB.out.size))
  replace HI := Lib.hid (HI.out.grow hB)
  replace HI2 := Lib.hid (HI2.out.grow hB)
  replace HT := Lib.hid (fun j hj => keep_below hB _ _ (HT.out j hj))
  have HG2 := Lib.hid hg2
  clear hg2
  clear hB
  have cHA0 := HA.out.2.1
  have cHA1 := HA.out.2.2.1
  have cHA2 := HA.out.2.2.2.1
  have cHA20 := HA2.out.2.1
  have cHA21 := HA2.out.2.2.1
  have cHA22 := HA2.out.2.2.2.1
  cases g2
  · go_wp2_with fail
    refine (awake11_calls _ HT.out).mono ?_
    rintro e W13 ⟨rfl, hB⟩
    clear cHA0 cHA1 cHA2 cHA20 cHA21 cHA22
    replace HA := Lib.hid (HA.out.below hB)
    replace HA2 := Lib.hid (HA2.out.below hB)
    replace HB := Lib.hid (HB.out.trans (hB.mono HB.out.size))
    replace HI := Lib.hid (HI.out.grow hB)
    replace HI2 := Lib.hid (HI2.out.grow hB)
    replace HT := Lib.hid (fun j hj => keep_below hB _ _ (HT.out j hj))
    clear hB
    have cHA0 := HA.out.2.1
    have cHA1 := HA.out.2.2.1
    have cHA2 := HA.out.2.2.2.1
    have cHA20 := HA2.out.2.1
    have cHA21 := HA2.out.2.2.1
    have cHA22 := HA2.out.2.2.2.1
    go_wp2_with fail
    go_ret
    exact ⟨rfl, HB.out⟩
  have HCQ := Lib.hid (HG2.out rfl)
  clear HG2
  go_wp2_with fail
  have HLW := Lib.hid HB.out.size
  obtain ⟨w0, hw0⟩ : ∃ w0, w0 = W12 := ⟨_, rfl⟩
  clear cHA0 cHA1 cHA2 cHA20 cHA21 cHA22
  rw [← hw0]
  rw [← hw0] at HA HA2 HB HI HI2 HT
  clear hw0
  refine wp_mid (fun a a' w' => ∃ (bx by' : Nat) (xso xio yso yio : Option Addr) (xsc xic ysc yic : Nat), a' = ((((((a.put (some 24) (.agg #[.slice so p.s.length sc, .slice io p.l.length ic, .int .i64 p.f])).put (some 25) (.agg #[.slice xso X.s.length xsc, .slice xio X.l.length xic, .int .i64 X.f])).put (some 26) (.agg #[.slice so2 q.s.length sc2, .slice io2 q.l.length ic2, .int .i64 q.f])).put (some 27) (.agg #[.slice yso Y.s.length ysc, .slice yio Y.l.length yic, .int .i64 Y.f])).put (some 7) (.pointer (some ⟨bx, 0, none⟩))).put (some 8) (.pointer (some ⟨by', 0, none⟩))) ∧ At3 w' bx (.slice xso X.s.length xsc) (.slice xio X.l.length xic) (.int .i64 X.f) ∧ At3 w' by' (.slice yso Y.s.length ysc) (.slice yio Y.l.length yic) (.int .i64 Y.f) ∧ IsP w' (fun _ => True) (.agg #[.slice xso X.s.length xsc, .slice xio X.l.length xic, .int .i64 X.f]) X ∧ IsP w' (fun _ => True) (.agg #[.slice yso Y.s.length ysc, .slice yio Y.l.length yic, .int .i64 Y.f]) Y ∧ Below w0.heap.size w0 w') ?_ ?_
  · have HWW := Lib.hid HB.out.size
    have HZ := Lib.hid (And.intro HB.out.size (Nat.le_refl w0.heap.size))
    have HW0 := Lib.hid (Below.refl w0.heap.size w0)
    have HHL := Lib.hid (show ∀ wx, Below w0.heap.size w0 wx → (fun w' => w'.cell? ⟨w.heap.size, 0, none⟩ = some (.slice so p.s.length sc) ∧ w'.cell? ⟨w.heap.size, 1, none⟩ = some (.slice io p.l.length ic) ∧ w'.cell? ⟨w.heap.size, 2, none⟩ = some (.int .i64 p.f) ∧ w'.cell? ⟨w.heap.size + 1, 0, none⟩ = some (.slice so2 q.s.length sc2) ∧ w'.cell? ⟨w.heap.size + 1, 1, none⟩ = some (.slice io2 q.l.length ic2) ∧ w'.cell? ⟨w.heap.size + 1, 2, none⟩ = some (.int .i64 q.f)) wx from fun wx HW0 => ⟨(HA.out.below HW0).2.1, (HA.out.below HW0).2.2.1, (HA.out.below HW0).2.2.2.1, (HA2.out.below HW0).2.1, (HA2.out.below HW0).2.2.1, (HA2.out.below HW0).2.2.2.1⟩)
    obtain ⟨W13, hWD⟩ : ∃ xw9, w0.drew = xw9 := ⟨_, rfl⟩
    have hB : Below w0.heap.size w0 W13 := by rw [← hWD]; exact Below.drewN' (Below.refl _ _) 1
    replace HZ := Lib.hid (And.intro HZ.out hB.size)
    replace HW0 := Lib.hid (HW0.out.trans (hB.mono HW0.out.size))
    clear hB
    refine wp_region_held_drew (S := fun w' => w'.cell? ⟨w.heap.size, 0, none⟩ = some (.slice so p.s.length sc) ∧ w'.cell? ⟨w.heap.size, 1, none⟩ = some (.slice io p.l.length ic) ∧ w'.cell? ⟨w.heap.size, 2, none⟩ = some (.int .i64 p.f) ∧ w'.cell? ⟨w.heap.size + 1, 0, none⟩ = some (.slice so2 q.s.length sc2) ∧ w'.cell? ⟨w.heap.size + 1, 1, none⟩ = some (.slice io2 q.l.length ic2) ∧ w'.cell? ⟨w.heap.size + 1, 2, none⟩ = some (.int .i64 q.f)) (by kernel_rfl) (by rw [hWD]; exact HHL.out _ HW0.out) (fun hHeld => ?_)
    rw [hWD] at hHeld ⊢
    clear hWD
    refine wpAnyH_take (i := 0) (v := ?_) rfl (by kernel_rfl) (by kernel_rfl) (by kernel_rfl) (fun _ _ _ h => absurd h.1 (by simp)) (Or.inl ⟨by rfl, ?_⟩) (by assumption) ?_
    rotate_left
    · (intro w hSw; (try dsimp only at hSw); go_simp; try with_reducible rfl)
    simp only [Act.put, List.getElem_toArray, List.getElem_cons_zero, List.setIfInBounds_toArray, List.set_cons_zero, List.set_cons_succ]
    refine wpAnyH_take (i := 2) (v := ?_) rfl (by kernel_rfl) (by kernel_rfl) (by kernel_rfl) (fun _ _ _ h => absurd h.1 (by simp)) (Or.inl ⟨by rfl, ?_⟩) (by assumption) ?_
    rotate_left
    · (intro w hSw; (try dsimp only at hSw); go_simp; try with_reducible rfl)
    simp only [Act.put, List.getElem_toArray, List.getElem_cons_succ, List.getElem_cons_zero, List.setIfInBounds_toArray, List.set_cons_zero, List.set_cons_succ]
    refine wpAnyH_ready (rs := [1, 4, 5]) (by kernel_rfl) (by simp) ?_
    refine AllReadyH.cons (o := _) rfl (fun K hK => ?_) ?_
    · clear hHeld
      go_simp
      have HWO0 := Lib.hid (show w.heap.size ≤ w0.heap.size from HWW.out)
      refine (ptidy_calls 40 _ p _ _ HCP.out (HI.out.grow HW0.out)).mono ?_
      rintro e W14 ⟨ux, rfl, hX, hB⟩
      replace HZ := Lib.hid (And.intro HZ.out hB.size)
      replace HW0 := Lib.hid (HW0.out.trans (hB.mono HW0.out.size))
      rw [← HXE.out.1] at hX
      obtain ⟨xso, xsc, xio, xic, rfl, _⟩ := hX.opened
      have HXP := Lib.hid (show IsP W14 (fun b => b < w0.heap.size ∨ (W13.heap.size ≤ b ∧ b < W14.heap.size)) (.agg #[.slice xso X.s.length xsc, .slice xio X.l.length xic, .int .i64 X.f]) X from hX.wide (fun b h1 h2 => by
        rcases h2 with h2 | h2
        · exact .inl (Nat.lt_of_lt_of_le h2.1 HWO0.out)
        · exact .inr ⟨h2, h1⟩))
      clear hX
      clear hB
      try go_simp
      refine hK.out _ _ ?_ (fun hHeld => ?_)
      · exact HHL.out _ HW0.out
      clear hK K
      refine wpAnyH_ready (rs := [3, 4, 5]) (by kernel_rfl) (by simp) ?_
      refine AllReadyH.cons (o := _) rfl (fun K hK => ?_) ?_
      · clear hHeld
        go_simp
        have HWO1 := Lib.hid (show w.heap.size ≤ w0.heap.size from HWW.out)
        refine (ptidy_calls 40 _ q _ _ HCQ.out (HI2.out.grow HW0.out)).mono ?_
        rintro e W15 ⟨uy, rfl, hY, hB⟩
        replace HZ := Lib.hid (And.intro HZ.out hB.size)
        replace HW0 := Lib.hid (HW0.out.trans (hB.mono HW0.out.size))
        replace HXP := Lib.hid (HXP.out.grow hB)
        rw [← HXE.out.2] at hY
        obtain ⟨yso, ysc, yio, yic, rfl, _⟩ := hY.opened
        have HYP := Lib.hid (show IsP W15 (fun b => b < w0.heap.size ∨ (W14.heap.size ≤ b ∧ b < W15.heap.size)) (.agg #[.slice yso Y.s.length ysc, .slice yio Y.l.length yic, .int .i64 Y.f]) Y from hY.wide (fun b h1 h2 => by
          rcases h2 with h2 | h2
          · exact .inl (Nat.lt_of_lt_of_le h2.1 HWO1.out)
          · exact .inr ⟨h2, h1⟩))
        clear hY
        clear hB
        try go_simp
        refine hK.out _ _ ?_ (fun hHeld => ?_)
        · exact HHL.out _ HW0.out
        clear hK K
        refine wpAnyH_ready (rs := [4, 5]) (by kernel_rfl) (by simp) ?_
        refine AllReadyH.cons (o := _) rfl (fun K hK => ?_) ?_
        · clear hHeld
          go_simp
          obtain ⟨W16, hWn⟩ : ∃ xw9, W15.alloc (.cells #[.slice none 0 0, .slice none 0 0, .int .i64 0] 25) = xw9 := ⟨_, rfl⟩
          have hB : Below W15.heap.size W15 W16 := by rw [← hWn]; exact below_new _ _
          have hNB : At3 W16 W15.heap.size (.slice none 0 0) (.slice none 0 0) (.int .i64 0) := by rw [← hWn]; exact At3.new _ _ _ _ _
          rw [hWn]
          clear hWn
          obtain ⟨bx, hnm⟩ : ∃ x, W15.heap.size = x := ⟨_, rfl⟩
          rw [hnm] at hNB ⊢
          replace HZ := Lib.hid (And.intro HZ.out (And.intro hnm hNB.1))
          replace HW0 := Lib.hid (HW0.out.trans (hB.mono HW0.out.size))
          replace HXP := Lib.hid (HXP.out.grow hB)
          replace HYP := Lib.hid (HYP.out.grow hB)
          have HVX := Lib.hid hNB
          clear hNB hB hnm
          have HG0 := Lib.hid (show w0.heap.size ≤ bx by (have := HZ.out; omega))
          replace HZ := Lib.hid (And.intro HZ.out HG0.out)
          refine hK.out _ _ ?_ (fun hHeld => ?_)
          · exact HHL.out _ HW0.out
          clear hK K
          refine wpAnyH_ready (rs := [5]) (by kernel_rfl) (by simp) ?_
          refine AllReadyH.cons (o := _) rfl (fun K hK => ?_) ?_
          · clear hHeld
            go_simp
            obtain ⟨W17, hWn⟩ : ∃ xw9, W16.alloc (.cells #[.slice none 0 0, .slice none 0 0, .int .i64 0] 25) = xw9 := ⟨_, rfl⟩
            have hB : Below W16.heap.size W16 W17 := by rw [← hWn]; exact below_new _ _
            have hNB : At3 W17 W16.heap.size (.slice none 0 0) (.slice none 0 0) (.int .i64 0) := by rw [← hWn]; exact At3.new _ _ _ _ _
            rw [hWn]
            clear hWn
            obtain ⟨by', hnm⟩ : ∃ x, W16.heap.size = x := ⟨_, rfl⟩
            rw [hnm] at hNB ⊢
            replace HZ := Lib.hid (And.intro HZ.out (And.intro hnm hNB.1))
            replace HW0 := Lib.hid (HW0.out.trans (hB.mono HW0.out.size))
            replace HXP := Lib.hid (HXP.out.grow hB)
            replace HYP := Lib.hid (HYP.out.grow hB)
            replace HVX := Lib.hid (HVX.out.below hB)
            have HVY := Lib.hid hNB
            clear hNB hB hnm
            have HG1 := Lib.hid (show w0.heap.size ≤ by' by (have := HZ.out; omega))
            replace HZ := Lib.hid (And.intro HZ.out HG1.out)
            refine hK.out _ _ ?_ (fun hHeld => ?_)
            · exact HHL.out _ HW0.out
            clear hK K
            refine wpAnyH_ready (rs := [6]) (by kernel_rfl) (by simp) ?_
            refine AllReadyH.cons (o := _) rfl (fun K hK => ?_) ?_
            · clear hHeld
              have s0 := HVX.out.2.1
              have s1 := HVX.out.2.2.1
              have s2 := HVX.out.2.2.2.1
              have t0 := HVX.out.2.2.2.2 0
              have t1 := HVX.out.2.2.2.2 1
              have t2 := HVX.out.2.2.2.2 2
              go_simp
              clear s0 t0 s1 t1 s2 t2
              obtain ⟨W18, hWn⟩ : ∃ xw9, (((W17.setCell ⟨bx, 0, none⟩ (.slice xso X.s.length xsc)).setCell ⟨bx, 1, none⟩ (.slice xio X.l.length xic)).setCell ⟨bx, 2, none⟩ (.int .i64 X.f)) = xw9 := ⟨_, rfl⟩
              rw [hWn]
              have HNE := Lib.hid (show by' ≠ bx by (have := HZ.out; omega))
              replace HVX := Lib.hid (show At3 W18 bx (.slice xso X.s.length xsc) (.slice xio X.l.length xic) (.int .i64 X.f) by rw [← hWn]; exact At3.put3 HVX.out _ _ _)
              replace HVY := Lib.hid (show At3 W18 by' (.slice none 0 0) (.slice none 0 0) (.int .i64 0) by rw [← hWn]; exact (((HVY.out.grown (grown_setCell _ ⟨bx, 0, none⟩ _) (by simpa using HNE.out)).grown (grown_setCell _ ⟨bx, 1, none⟩ _) (by simpa using HNE.out)).grown (grown_setCell _ ⟨bx, 2, none⟩ _) (by simpa using HNE.out)))
              replace HXP := Lib.hid (show IsP W18 (fun b => b < w0.heap.size ∨ (W13.heap.size ≤ b ∧ b < W14.heap.size)) (.agg #[.slice xso X.s.length xsc, .slice xio X.l.length xic, .int .i64 X.f]) X by
                have hno : ¬ (bx < w0.heap.size ∨ (W13.heap.size ≤ bx ∧ bx < W14.heap.size)) := by (have := HZ.out; omega)
                rw [← hWn]; exact HXP.out.keep (((Kept.setCell _ _ _ hno).trans (Kept.setCell _ _ _ hno)).trans (Kept.setCell _ _ _ hno)) (fun _ _ h => h))
              replace HYP := Lib.hid (show IsP W18 (fun b => b < w0.heap.size ∨ (W14.heap.size ≤ b ∧ b < W15.heap.size)) (.agg #[.slice yso Y.s.length ysc, .slice yio Y.l.length yic, .int .i64 Y.f]) Y by
                have hno : ¬ (bx < w0.heap.size ∨ (W14.heap.size ≤ bx ∧ bx < W15.heap.size)) := by (have := HZ.out; omega)
                rw [← hWn]; exact HYP.out.keep (((Kept.setCell _ _ _ hno).trans (Kept.setCell _ _ _ hno)).trans (Kept.setCell _ _ _ hno)) (fun _ _ h => h))
              replace HW0 := Lib.hid (show Below w0.heap.size w0 W18 by rw [← hWn]; exact (((HW0.out.setCell (by show w0.heap.size ≤ bx; exact HG0.out) _).setCell (by show w0.heap.size ≤ bx; exact HG0.out) _).setCell (by show w0.heap.size ≤ bx; exact HG0.out) _))
              clear hWn HNE
              refine hK.out _ _ ?_ (fun hHeld => ?_)
              · exact HHL.out _ HW0.out
              clear hK K
              refine wpAnyH_ready (rs := [7]) (by kernel_rfl) (by simp) ?_
              refine AllReadyH.cons (o := _) rfl (fun K hK => ?_) ?_
              · clear hHeld
                have s0 := HVY.out.2.1
                have s1 := HVY.out.2.2.1
                have s2 := HVY.out.2.2.2.1
                have t0 := HVY.out.2.2.2.2 0
                have t1 := HVY.out.2.2.2.2 1
                have t2 := HVY.out.2.2.2.2 2
                go_simp
                clear s0 t0 s1 t1 s2 t2
                obtain ⟨W19, hWn⟩ : ∃ xw9, (((W18.setCell ⟨by', 0, none⟩ (.slice yso Y.s.length ysc)).setCell ⟨by', 1, none⟩ (.slice yio Y.l.length yic)).setCell ⟨by', 2, none⟩ (.int .i64 Y.f)) = xw9 := ⟨_, rfl⟩
                rw [hWn]
                have HNE := Lib.hid (show bx ≠ by' by (have := HZ.out; omega))
                replace HVY := Lib.hid (show At3 W19 by' (.slice yso Y.s.length ysc) (.slice yio Y.l.length yic) (.int .i64 Y.f) by rw [← hWn]; exact At3.put3 HVY.out _ _ _)
                replace HVX := Lib.hid (show At3 W19 bx (.slice xso X.s.length xsc) (.slice xio X.l.length xic) (.int .i64 X.f) by rw [← hWn]; exact (((HVX.out.grown (grown_setCell _ ⟨by', 0, none⟩ _) (by simpa using HNE.out)).grown (grown_setCell _ ⟨by', 1, none⟩ _) (by simpa using HNE.out)).grown (grown_setCell _ ⟨by', 2, none⟩ _) (by simpa using HNE.out)))
                replace HXP := Lib.hid (show IsP W19 (fun b => b < w0.heap.size ∨ (W13.heap.size ≤ b ∧ b < W14.heap.size)) (.agg #[.slice xso X.s.length xsc, .slice xio X.l.length xic, .int .i64 X.f]) X by
                  have hno : ¬ (by' < w0.heap.size ∨ (W13.heap.size ≤ by' ∧ by' < W14.heap.size)) := by (have := HZ.out; omega)
                  rw [← hWn]; exact HXP.out.keep (((Kept.setCell _ _ _ hno).trans (Kept.setCell _ _ _ hno)).trans (Kept.setCell _ _ _ hno)) (fun _ _ h => h))
                replace HYP := Lib.hid (show IsP W19 (fun b => b < w0.heap.size ∨ (W14.heap.size ≤ b ∧ b < W15.heap.size)) (.agg #[.slice yso Y.s.length ysc, .slice yio Y.l.length yic, .int .i64 Y.f]) Y by
                  have hno : ¬ (by' < w0.heap.size ∨ (W14.heap.size ≤ by' ∧ by' < W15.heap.size)) := by (have := HZ.out; omega)
                  rw [← hWn]; exact HYP.out.keep (((Kept.setCell _ _ _ hno).trans (Kept.setCell _ _ _ hno)).trans (Kept.setCell _ _ _ hno)) (fun _ _ h => h))
                replace HW0 := Lib.hid (show Below w0.heap.size w0 W19 by rw [← hWn]; exact (((HW0.out.setCell (by show w0.heap.size ≤ by'; exact HG1.out) _).setCell (by show w0.heap.size ≤ by'; exact HG1.out) _).setCell (by show w0.heap.size ≤ by'; exact HG1.out) _))
                clear hWn HNE
                refine hK.out _ _ ?_ (fun hHeld => ?_)
                · exact HHL.out _ HW0.out
                clear hK K
                refine wpAnyH_done (by kernel_rfl) ?_ _
                clear hHeld
                exact ⟨rfl, bx, by', xso, xio, yso, yio, xsc, xic, ysc, yic, rfl, HVX.out, HVY.out, HXP.out.wide (fun _ _ _ => trivial), HYP.out.wide (fun _ _ _ => trivial), HW0.out⟩
              exact AllReadyH.nil
            exact AllReadyH.nil
          exact AllReadyH.nil
        refine AllReadyH.cons (o := _) rfl (fun K hK => ?_) ?_
        · clear hHeld
          go_simp
          obtain ⟨W16, hWn⟩ : ∃ xw9, W15.alloc (.cells #[.slice none 0 0, .slice none 0 0, .int .i64 0] 25) = xw9 := ⟨_, rfl⟩
          have hB : Below W15.heap.size W15 W16 := by rw [← hWn]; exact below_new _ _
          have hNB : At3 W16 W15.heap.size (.slice none 0 0) (.slice none 0 0) (.int .i64 0) := by rw [← hWn]; exact At3.new _ _ _ _ _
          rw [hWn]
          clear hWn
          obtain ⟨by', hnm⟩ : ∃ x, W15.heap.size = x := ⟨_, rfl⟩
          rw [hnm] at hNB ⊢
          replace HZ := Lib.hid (And.intro HZ.out (And.intro hnm hNB.1))
          replace HW0 := Lib.hid (HW0.out.trans (hB.mono HW0.out.size))
          replace HXP := Lib.hid (HXP.out.grow hB)
          replace HYP := Lib.hid (HYP.out.grow hB)
          have HVY := Lib.hid hNB
          clear hNB hB hnm
          have HG1 := Lib.hid (show w0.heap.size ≤ by' by (have := HZ.out; omega))
          replace HZ := Lib.hid (And.intro HZ.out HG1.out)
          refine hK.out _ _ ?_ (fun hHeld => ?_)
          · exact HHL.out _ HW0.out
          clear hK K
          refine wpAnyH_ready (rs := [4]) (by kernel_rfl) (by simp) ?_
          refine AllReadyH.cons (o := _) rfl (fun K hK => ?_) ?_
          · clear hHeld
            go_simp
            obtain ⟨W17, hWn⟩ : ∃ xw9, W16.alloc (.cells #[.slice none 0 0, .slice none 0 0, .int .i64 0] 25) = xw9 := ⟨_, rfl⟩
            have hB : Below W16.heap.size W16 W17 := by rw [← hWn]; exact below_new _ _
            have hNB : At3 W17 W16.heap.size (.slice none 0 0) (.slice none 0 0) (.int .i64 0) := by rw [← hWn]; exact At3.new _ _ _ _ _
            rw [hWn]
            clear hWn
            obtain ⟨bx, hnm⟩ : ∃ x, W16.heap.size = x := ⟨_, rfl⟩
            rw [hnm] at hNB ⊢
            replace HZ := Lib.hid (And.intro HZ.out (And.intro hnm hNB.1))
            replace HW0 := Lib.hid (HW0.out.trans (hB.mono HW0.out.size))
            replace HXP := Lib.hid (HXP.out.grow hB)
            replace HYP := Lib.hid (HYP.out.grow hB)
            replace HVY := Lib.hid (HVY.out.below hB)
            have HVX := Lib.hid hNB
            clear hNB hB hnm
            have HG0 := Lib.hid (show w0.heap.size ≤ bx by (have := HZ.out; omega))
            replace HZ := Lib.hid (And.intro HZ.out HG0.out)
            refine hK.out _ _ ?_ (fun hHeld => ?_)
            · exact HHL.out _ HW0.out
            clear hK K
            refine wpAnyH_ready (rs := [6]) (by kernel_rfl) (by simp) ?_
            refine AllReadyH.cons (o := _) rfl (fun K hK => ?_) ?_
            · clear hHeld
              have s0 := HVX.out.2.1
              have s1 := HVX.out.2.2.1
              have s2 := HVX.out.2.2.2.1
              have t0 := HVX.out.2.2.2.2 0
              have t1 := HVX.out.2.2.2.2 1
              have t2 := HVX.out.2.2.2.2 2
              go_simp
              clear s0 t0 s1 t1 s2 t2
              obtain ⟨W18, hWn⟩ : ∃ xw9, (((W17.setCell ⟨bx, 0, none⟩ (.slice xso X.s.length xsc)).setCell ⟨bx, 1, none⟩ (.slice xio X.l.length xic)).setCell ⟨bx, 2, none⟩ (.int .i64 X.f)) = xw9 := ⟨_, rfl⟩
              rw [hWn]
              have HNE := Lib.hid (show by' ≠ bx by (have := HZ.out; omega))
              replace HVX := Lib.hid (show At3 W18 bx (.slice xso X.s.length xsc) (.slice xio X.l.length xic) (.int .i64 X.f) by rw [← hWn]; exact At3.put3 HVX.out _ _ _)
              replace HVY := Lib.hid (show At3 W18 by' (.slice none 0 0) (.slice none 0 0) (.int .i64 0) by rw [← hWn]; exact (((HVY.out.grown (grown_setCell _ ⟨bx, 0, none⟩ _) (by simpa using HNE.out)).grown (grown_setCell _ ⟨bx, 1, none⟩ _) (by simpa using HNE.out)).grown (grown_setCell _ ⟨bx, 2, none⟩ _) (by simpa using HNE.out)))
              replace HXP := Lib.hid (show IsP W18 (fun b => b < w0.heap.size ∨ (W13.heap.size ≤ b ∧ b < W14.heap.size)) (.agg #[.slice xso X.s.length xsc, .slice xio X.l.length xic, .int .i64 X.f]) X by
                have hno : ¬ (bx < w0.heap.size ∨ (W13.heap.size ≤ bx ∧ bx < W14.heap.size)) := by (have := HZ.out; omega)
                rw [← hWn]; exact HXP.out.keep (((Kept.setCell _ _ _ hno).trans (Kept.setCell _ _ _ hno)).trans (Kept.setCell _ _ _ hno)) (fun _ _ h => h))
              replace HYP := Lib.hid (show IsP W18 (fun b => b < w0.heap.size ∨ (W14.heap.size ≤ b ∧ b < W15.heap.size)) (.agg #[.slice yso Y.s.length ysc, .slice yio Y.l.length yic, .int .i64 Y.f]) Y by
                have hno : ¬ (bx < w0.heap.size ∨ (W14.heap.size ≤ bx ∧ bx < W15.heap.size)) := by (have := HZ.out; omega)
                rw [← hWn]; exact HYP.out.keep (((Kept.setCell _ _ _ hno).trans (Kept.setCell _ _ _ hno)).trans (Kept.setCell _ _ _ hno)) (fun _ _ h => h))
              replace HW0 := Lib.hid (show Below w0.heap.size w0 W18 by rw [← hWn]; exact (((HW0.out.setCell (by show w0.heap.size ≤ bx; exact HG0.out) _).setCell (by show w0.heap.size ≤ bx; exact HG0.out) _).setCell (by show w0.heap.size ≤ bx; exact HG0.out) _))
              clear hWn HNE
              refine hK.out _ _ ?_ (fun hHeld => ?_)
              · exact HHL.out _ HW0.out
              clear hK K
              refine wpAnyH_ready (rs := [7]) (by kernel_rfl) (by simp) ?_
              refine AllReadyH.cons (o := _) rfl (fun K hK => ?_) ?_
              · clear hHeld
                have s0 := HVY.out.2.1
                have s1 := HVY.out.2.2.1
                have s2 := HVY.out.2.2.2.1
                have t0 := HVY.out.2.2.2.2 0
                have t1 := HVY.out.2.2.2.2 1
                have t2 := HVY.out.2.2.2.2 2
                go_simp
                clear s0 t0 s1 t1 s2 t2
                obtain ⟨W19, hWn⟩ : ∃ xw9, (((W18.setCell ⟨by', 0, none⟩ (.slice yso Y.s.length ysc)).setCell ⟨by', 1, none⟩ (.slice yio Y.l.length yic)).setCell ⟨by', 2, none⟩ (.int .i64 Y.f)) = xw9 := ⟨_, rfl⟩
                rw [hWn]
                have HNE := Lib.hid (show bx ≠ by' by (have := HZ.out; omega))
                replace HVY := Lib.hid (show At3 W19 by' (.slice yso Y.s.length ysc) (.slice yio Y.l.length yic) (.int .i64 Y.f) by rw [← hWn]; exact At3.put3 HVY.out _ _ _)
                replace HVX := Lib.hid (show At3 W19 bx (.slice xso X.s.length xsc) (.slice xio X.l.length xic) (.int .i64 X.f) by rw [← hWn]; exact (((HVX.out.grown (grown_setCell _ ⟨by', 0, none⟩ _) (by simpa using HNE.out)).grown (grown_setCell _ ⟨by', 1, none⟩ _) (by simpa using HNE.out)).grown (grown_setCell _ ⟨by', 2, none⟩ _) (by simpa using HNE.out)))
                replace HXP := Lib.hid (show IsP W19 (fun b => b < w0.heap.size ∨ (W13.heap.size ≤ b ∧ b < W14.heap.size)) (.agg #[.slice xso X.s.length xsc, .slice xio X.l.length xic, .int .i64 X.f]) X by
                  have hno : ¬ (by' < w0.heap.size ∨ (W13.heap.size ≤ by' ∧ by' < W14.heap.size)) := by (have := HZ.out; omega)
                  rw [← hWn]; exact HXP.out.keep (((Kept.setCell _ _ _ hno).trans (Kept.setCell _ _ _ hno)).trans (Kept.setCell _ _ _ hno)) (fun _ _ h => h))
                replace HYP := Lib.hid (show IsP W19 (fun b => b < w0.heap.size ∨ (W14.heap.size ≤ b ∧ b < W15.heap.size)) (.agg #[.slice yso Y.s.length ysc, .slice yio Y.l.length yic, .int .i64 Y.f]) Y by
                  have hno : ¬ (by' < w0.heap.size ∨ (W14.heap.size ≤ by' ∧ by' < W15.heap.size)) := by (have := HZ.out; omega)
                  rw [← hWn]; exact HYP.out.keep (((Kept.setCell _ _ _ hno).trans (Kept.setCell _ _ _ hno)).trans (Kept.setCell _ _ _ hno)) (fun _ _ h => h))
                replace HW0 := Lib.hid (show Below w0.heap.size w0 W19 by rw [← hWn]; exact (((HW0.out.setCell (by show w0.heap.size ≤ by'; exact HG1.out) _).setCell (by show w0.heap.size ≤ by'; exact HG1.out) _).setCell (by show w0.heap.size ≤ by'; exact HG1.out) _))
                clear hWn HNE
                refine hK.out _ _ ?_ (fun hHeld => ?_)
                · exact HHL.out _ HW0.out
                clear hK K
                refine wpAnyH_done (by kernel_rfl) ?_ _
                clear hHeld
                exact ⟨rfl, bx, by', xso, xio, yso, yio, xsc, xic, ysc, yic, rfl, HVX.out, HVY.out, HXP.out.wide (fun _ _ _ => trivial), HYP.out.wide (fun _ _ _ => trivial), HW0.out⟩
              exact AllReadyH.nil
            exact AllReadyH.nil
          exact AllReadyH.nil
        exact AllReadyH.nil
      refine AllReadyH.cons (o := _) rfl (fun K hK => ?_) ?_
      · clear hHeld
        go_simp
        obtain ⟨W15, hWn⟩ : ∃ xw9, W14.alloc (.cells #[.slice none 0 0, .slice none 0 0, .int .i64 0] 25) = xw9 := ⟨_, rfl⟩
        have hB : Below W14.heap.size W14 W15 := by rw [← hWn]; exact below_new _ _
        have hNB : At3 W15 W14.heap.size (.slice none 0 0) (.slice none 0 0) (.int .i64 0) := by rw [← hWn]; exact At3.new _ _ _ _ _
        rw [hWn]
        clear hWn
        obtain ⟨bx, hnm⟩ : ∃ x, W14.heap.size = x := ⟨_, rfl⟩
        rw [hnm] at hNB ⊢
        replace HZ := Lib.hid (And.intro HZ.out (And.intro hnm hNB.1))
        replace HW0 := Lib.hid (HW0.out.trans (hB.mono HW0.out.size))
        replace HXP := Lib.hid (HXP.out.grow hB)
        have HVX := Lib.hid hNB
        clear hNB hB hnm
        have HG0 := Lib.hid (show w0.heap.size ≤ bx by (have := HZ.out; omega))
        replace HZ := Lib.hid (And.intro HZ.out HG0.out)
        refine hK.out _ _ ?_ (fun hHeld => ?_)
        · exact HHL.out _ HW0.out
        clear hK K
        refine wpAnyH_ready (rs := [3, 5]) (by kernel_rfl) (by simp) ?_
        refine AllReadyH.cons (o := _) rfl (fun K hK => ?_) ?_
        · clear hHeld
          go_simp
          have HWO1 := Lib.hid (show w.heap.size ≤ w0.heap.size from HWW.out)
          refine (ptidy_calls 40 _ q _ _ HCQ.out (HI2.out.grow HW0.out)).mono ?_
          rintro e W16 ⟨uy, rfl, hY, hB⟩
          replace HZ := Lib.hid (And.intro HZ.out hB.size)
          replace HW0 := Lib.hid (HW0.out.trans (hB.mono HW0.out.size))
          replace HXP := Lib.hid (HXP.out.grow hB)
          replace HVX := Lib.hid (HVX.out.below hB)
          rw [← HXE.out.2] at hY
          obtain ⟨yso, ysc, yio, yic, rfl, _⟩ := hY.opened
          have HYP := Lib.hid (show IsP W16 (fun b => b < w0.heap.size ∨ (W15.heap.size ≤ b ∧ b < W16.heap.size)) (.agg #[.slice yso Y.s.length ysc, .slice yio Y.l.length yic, .int .i64 Y.f]) Y from hY.wide (fun b h1 h2 => by
            rcases h2 with h2 | h2
            · exact .inl (Nat.lt_of_lt_of_le h2.1 HWO1.out)
            · exact .inr ⟨h2, h1⟩))
          clear hY
          clear hB
          try go_simp
          refine hK.out _ _ ?_ (fun hHeld => ?_)
          · exact HHL.out _ HW0.out
          clear hK K
          refine wpAnyH_ready (rs := [5]) (by kernel_rfl) (by simp) ?_
          refine AllReadyH.cons (o := _) rfl (fun K hK => ?_) ?_
          · clear hHeld
            go_simp
            obtain ⟨W17, hWn⟩ : ∃ xw9, W16.alloc (.cells #[.slice none 0 0, .slice none 0 0, .int .i64 0] 25) = xw9 := ⟨_, rfl⟩
            have hB : Below W16.heap.size W16 W17 := by rw [← hWn]; exact below_new _ _
            have hNB : At3 W17 W16.heap.size (.slice none 0 0) (.slice none 0 0) (.int .i64 0) := by rw [← hWn]; exact At3.new _ _ _ _ _
            rw [hWn]
            clear hWn
            obtain ⟨by', hnm⟩ : ∃ x, W16.heap.size = x := ⟨_, rfl⟩
            rw [hnm] at hNB ⊢
            replace HZ := Lib.hid (And.intro HZ.out (And.intro hnm hNB.1))
            replace HW0 := Lib.hid (HW0.out.trans (hB.mono HW0.out.size))
            replace HXP := Lib.hid (HXP.out.grow hB)
            replace HVX := Lib.hid (HVX.out.below hB)
            replace HYP := Lib.hid (HYP.out.grow hB)
            have HVY := Lib.hid hNB
            clear hNB hB hnm
            have HG1 := Lib.hid (show w0.heap.size ≤ by' by (have := HZ.out; omega))
            replace HZ := Lib.hid (And.intro HZ.out HG1.out)
            refine hK.out _ _ ?_ (fun hHeld => ?_)
            · exact HHL.out _ HW0.out
            clear hK K
            refine wpAnyH_ready (rs := [6]) (by kernel_rfl) (by simp) ?_
            refine AllReadyH.cons (o := _) rfl (fun K hK => ?_) ?_
            · clear hHeld
              have s0 := HVX.out.2.1
              have s1 := HVX.out.2.2.1
              have s2 := HVX.out.2.2.2.1
              have t0 := HVX.out.2.2.2.2 0
              have t1 := HVX.out.2.2.2.2 1
              have t2 := HVX.out.2.2.2.2 2
              go_simp
              clear s0 t0 s1 t1 s2 t2
              obtain ⟨W18, hWn⟩ : ∃ xw9, (((W17.setCell ⟨bx, 0, none⟩ (.slice xso X.s.length xsc)).setCell ⟨bx, 1, none⟩ (.slice xio X.l.length xic)).setCell ⟨bx, 2, none⟩ (.int .i64 X.f)) = xw9 := ⟨_, rfl⟩
              rw [hWn]
              have HNE := Lib.hid (show by' ≠ bx by (have := HZ.out; omega))
              replace HVX := Lib.hid (show At3 W18 bx (.slice xso X.s.length xsc) (.slice xio X.l.length xic) (.int .i64 X.f) by rw [← hWn]; exact At3.put3 HVX.out _ _ _)
              replace HVY := Lib.hid (show At3 W18 by' (.slice none 0 0) (.slice none 0 0) (.int .i64 0) by rw [← hWn]; exact (((HVY.out.grown (grown_setCell _ ⟨bx, 0, none⟩ _) (by simpa using HNE.out)).grown (grown_setCell _ ⟨bx, 1, none⟩ _) (by simpa using HNE.out)).grown (grown_setCell _ ⟨bx, 2, none⟩ _) (by simpa using HNE.out)))
              replace HXP := Lib.hid (show IsP W18 (fun b => b < w0.heap.size ∨ (W13.heap.size ≤ b ∧ b < W14.heap.size)) (.agg #[.slice xso X.s.length xsc, .slice xio X.l.length xic, .int .i64 X.f]) X by
                have hno : ¬ (bx < w0.heap.size ∨ (W13.heap.size ≤ bx ∧ bx < W14.heap.size)) := by (have := HZ.out; omega)
                rw [← hWn]; exact HXP.out.keep (((Kept.setCell _ _ _ hno).trans (Kept.setCell _ _ _ hno)).trans (Kept.setCell _ _ _ hno)) (fun _ _ h => h))
              replace HYP := Lib.hid (show IsP W18 (fun b => b < w0.heap.size ∨ (W15.heap.size ≤ b ∧ b < W16.heap.size)) (.agg #[.slice yso Y.s.length ysc, .slice yio Y.l.length yic, .int .i64 Y.f]) Y by
                have hno : ¬ (bx < w0.heap.size ∨ (W15.heap.size ≤ bx ∧ bx < W16.heap.size)) := by (have := HZ.out; omega)
                rw [← hWn]; exact HYP.out.keep (((Kept.setCell _ _ _ hno).trans (Kept.setCell _ _ _ hno)).trans (Kept.setCell _ _ _ hno)) (fun _ _ h => h))
              replace HW0 := Lib.hid (show Below w0.heap.size w0 W18 by rw [← hWn]; exact (((HW0.out.setCell (by show w0.heap.size ≤ bx; exact HG0.out) _).setCell (by show w0.heap.size ≤ bx; exact HG0.out) _).setCell (by show w0.heap.size ≤ bx; exact HG0.out) _))
              clear hWn HNE
              refine hK.out _ _ ?_ (fun hHeld => ?_)
              · exact HHL.out _ HW0.out
              clear hK K
              refine wpAnyH_ready (rs := [7]) (by kernel_rfl) (by simp) ?_
              refine AllReadyH.cons (o := _) rfl (fun K hK => ?_) ?_
              · clear hHeld
                have s0 := HVY.out.2.1
                have s1 := HVY.out.2.2.1
                have s2 := HVY.out.2.2.2.1
                have t0 := HVY.out.2.2.2.2 0
                have t1 := HVY.out.2.2.2.2 1
                have t2 := HVY.out.2.2.2.2 2
                go_simp
                clear s0 t0 s1 t1 s2 t2
                obtain ⟨W19, hWn⟩ : ∃ xw9, (((W18.setCell ⟨by', 0, none⟩ (.slice yso Y.s.length ysc)).setCell ⟨by', 1, none⟩ (.slice yio Y.l.length yic)).setCell ⟨by', 2, none⟩ (.int .i64 Y.f)) = xw9 := ⟨_, rfl⟩
                rw [hWn]
                have HNE := Lib.hid (show bx ≠ by' by (have := HZ.out; omega))
                replace HVY := Lib.hid (show At3 W19 by' (.slice yso Y.s.length ysc) (.slice yio Y.l.length yic) (.int .i64 Y.f) by rw [← hWn]; exact At3.put3 HVY.out _ _ _)
                replace HVX := Lib.hid (show At3 W19 bx (.slice xso X.s.length xsc) (.slice xio X.l.length xic) (.int .i64 X.f) by rw [← hWn]; exact (((HVX.out.grown (grown_setCell _ ⟨by', 0, none⟩ _) (by simpa using HNE.out)).grown (grown_setCell _ ⟨by', 1, none⟩ _) (by simpa using HNE.out)).grown (grown_setCell _ ⟨by', 2, none⟩ _) (by simpa using HNE.out)))
                replace HXP := Lib.hid (show IsP W19 (fun b => b < w0.heap.size ∨ (W13.heap.size ≤ b ∧ b < W14.heap.size)) (.agg #[.slice xso X.s.length xsc, .slice xio X.l.length xic, .int .i64 X.f]) X by
                  have hno : ¬ (by' < w0.heap.size ∨ (W13.heap.size ≤ by' ∧ by' < W14.heap.size)) := by (have := HZ.out; omega)
                  rw [← hWn]; exact HXP.out.keep (((Kept.setCell _ _ _ hno).trans (Kept.setCell _ _ _ hno)).trans (Kept.setCell _ _ _ hno)) (fun _ _ h => h))
                replace HYP := Lib.hid (show IsP W19 (fun b => b < w0.heap.size ∨ (W15.heap.size ≤ b ∧ b < W16.heap.size)) (.agg #[.slice yso Y.s.length ysc, .slice yio Y.l.length yic, .int .i64 Y.f]) Y by
                  have hno : ¬ (by' < w0.heap.size ∨ (W15.heap.size ≤ by' ∧ by' < W16.heap.size)) := by (have := HZ.out; omega)
                  rw [← hWn]; exact HYP.out.keep (((Kept.setCell _ _ _ hno).trans (Kept.setCell _ _ _ hno)).trans (Kept.setCell _ _ _ hno)) (fun _ _ h => h))
                replace HW0 := Lib.hid (show Below w0.heap.size w0 W19 by rw [← hWn]; exact (((HW0.out.setCell (by show w0.heap.size ≤ by'; exact HG1.out) _).setCell (by show w0.heap.size ≤ by'; exact HG1.out) _).setCell (by show w0.heap.size ≤ by'; exact HG1.out) _))
                clear hWn HNE
                refine hK.out _ _ ?_ (fun hHeld => ?_)
                · exact HHL.out _ HW0.out
                clear hK K
                refine wpAnyH_done (by kernel_rfl) ?_ _
                clear hHeld
                exact ⟨rfl, bx, by', xso, xio, yso, yio, xsc, xic, ysc, yic, rfl, HVX.out, HVY.out, HXP.out.wide (fun _ _ _ => trivial), HYP.out.wide (fun _ _ _ => trivial), HW0.out⟩
              exact AllReadyH.nil
            exact AllReadyH.nil
          exact AllReadyH.nil
        refine AllReadyH.cons (o := _) rfl (fun K hK => ?_) ?_
        · clear hHeld
          go_simp
          obtain ⟨W16, hWn⟩ : ∃ xw9, W15.alloc (.cells #[.slice none 0 0, .slice none 0 0, .int .i64 0] 25) = xw9 := ⟨_, rfl⟩
          have hB : Below W15.heap.size W15 W16 := by rw [← hWn]; exact below_new _ _
          have hNB : At3 W16 W15.heap.size (.slice none 0 0) (.slice none 0 0) (.int .i64 0) := by rw [← hWn]; exact At3.new _ _ _ _ _
          rw [hWn]
          clear hWn
          obtain ⟨by', hnm⟩ : ∃ x, W15.heap.size = x := ⟨_, rfl⟩
          rw [hnm] at hNB ⊢
          replace HZ := Lib.hid (And.intro HZ.out (And.intro hnm hNB.1))
          replace HW0 := Lib.hid (HW0.out.trans (hB.mono HW0.out.size))
          replace HXP := Lib.hid (HXP.out.grow hB)
          replace HVX := Lib.hid (HVX.out.below hB)
          have HVY := Lib.hid hNB
          clear hNB hB hnm
          have HG1 := Lib.hid (show w0.heap.size ≤ by' by (have := HZ.out; omega))
          replace HZ := Lib.hid (And.intro HZ.out HG1.out)
          refine hK.out _ _ ?_ (fun hHeld => ?_)
          · exact HHL.out _ HW0.out
          clear hK K
          refine wpAnyH_ready (rs := [3]) (by kernel_rfl) (by simp) ?_
          refine AllReadyH.cons (o := _) rfl (fun K hK => ?_) ?_
          · clear hHeld
            go_simp
            have HWO1 := Lib.hid (show w.heap.size ≤ w0.heap.size from HWW.out)
            refine (ptidy_calls 40 _ q _ _ HCQ.out (HI2.out.grow HW0.out)).mono ?_
            rintro e W17 ⟨uy, rfl, hY, hB⟩
            replace HZ := Lib.hid (And.intro HZ.out hB.size)
            replace HW0 := Lib.hid (HW0.out.trans (hB.mono HW0.out.size))
            replace HXP := Lib.hid (HXP.out.grow hB)
            replace HVX := Lib.hid (HVX.out.below hB)
            replace HVY := Lib.hid (HVY.out.below hB)
            rw [← HXE.out.2] at hY
            obtain ⟨yso, ysc, yio, yic, rfl, _⟩ := hY.opened
            have HYP := Lib.hid (show IsP W17 (fun b => b < w0.heap.size ∨ (W16.heap.size ≤ b ∧ b < W17.heap.size)) (.agg #[.slice yso Y.s.length ysc, .slice yio Y.l.length yic, .int .i64 Y.f]) Y from hY.wide (fun b h1 h2 => by
              rcases h2 with h2 | h2
              · exact .inl (Nat.lt_of_lt_of_le h2.1 HWO1.out)
              · exact .inr ⟨h2, h1⟩))
            clear hY
            clear hB
            try go_simp
            refine hK.out _ _ ?_ (fun hHeld => ?_)
            · exact HHL.out _ HW0.out
            clear hK K
            refine wpAnyH_ready (rs := [6]) (by kernel_rfl) (by simp) ?_
            refine AllReadyH.cons (o := _) rfl (fun K hK => ?_) ?_
            · clear hHeld
              have s0 := HVX.out.2.1
              have s1 := HVX.out.2.2.1
              have s2 := HVX.out.2.2.2.1
              have t0 := HVX.out.2.2.2.2 0
              have t1 := HVX.out.2.2.2.2 1
              have t2 := HVX.out.2.2.2.2 2
              go_simp
              clear s0 t0 s1 t1 s2 t2
              obtain ⟨W18, hWn⟩ : ∃ xw9, (((W17.setCell ⟨bx, 0, none⟩ (.slice xso X.s.length xsc)).setCell ⟨bx, 1, none⟩ (.slice xio X.l.length xic)).setCell ⟨bx, 2, none⟩ (.int .i64 X.f)) = xw9 := ⟨_, rfl⟩
              rw [hWn]
              have HNE := Lib.hid (show by' ≠ bx by (have := HZ.out; omega))
              replace HVX := Lib.hid (show At3 W18 bx (.slice xso X.s.length xsc) (.slice xio X.l.length xic) (.int .i64 X.f) by rw [← hWn]; exact At3.put3 HVX.out _ _ _)
              replace HVY := Lib.hid (show At3 W18 by' (.slice none 0 0) (.slice none 0 0) (.int .i64 0) by rw [← hWn]; exact (((HVY.out.grown (grown_setCell _ ⟨bx, 0, none⟩ _) (by simpa using HNE.out)).grown (grown_setCell _ ⟨bx, 1, none⟩ _) (by simpa using HNE.out)).grown (grown_setCell _ ⟨bx, 2, none⟩ _) (by simpa using HNE.out)))
              replace HXP := Lib.hid (show IsP W18 (fun b => b < w0.heap.size ∨ (W13.heap.size ≤ b ∧ b < W14.heap.size)) (.agg #[.slice xso X.s.length xsc, .slice xio X.l.length xic, .int .i64 X.f]) X by
                have hno : ¬ (bx < w0.heap.size ∨ (W13.heap.size ≤ bx ∧ bx < W14.heap.size)) := by (have := HZ.out; omega)
                rw [← hWn]; exact HXP.out.keep (((Kept.setCell _ _ _ hno).trans (Kept.setCell _ _ _ hno)).trans (Kept.setCell _ _ _ hno)) (fun _ _ h => h))
              replace HYP := Lib.hid (show IsP W18 (fun b => b < w0.heap.size ∨ (W16.heap.size ≤ b ∧ b < W17.heap.size)) (.agg #[.slice yso Y.s.length ysc, .slice yio Y.l.length yic, .int .i64 Y.f]) Y by
                have hno : ¬ (bx < w0.heap.size ∨ (W16.heap.size ≤ bx ∧ bx < W17.heap.size)) := by (have := HZ.out; omega)
                rw [← hWn]; exact HYP.out.keep (((Kept.setCell _ _ _ hno).trans (Kept.setCell _ _ _ hno)).trans (Kept.setCell _ _ _ hno)) (fun _ _ h => h))
              replace HW0 := Lib.hid (show Below w0.heap.size w0 W18 by rw [← hWn]; exact (((HW0.out.setCell (by show w0.heap.size ≤ bx; exact HG0.out) _).setCell (by show w0.heap.size ≤ bx; exact HG0.out) _).setCell (by show w0.heap.size ≤ bx; exact HG0.out) _))
              clear hWn HNE
              refine hK.out _ _ ?_ (fun hHeld => ?_)
              · exact HHL.out _ HW0.out
              clear hK K
              refine wpAnyH_ready (rs := [7]) (by kernel_rfl) (by simp) ?_
              refine AllReadyH.cons (o := _) rfl (fun K hK => ?_) ?_
              · clear hHeld
                have s0 := HVY.out.2.1
                have s1 := HVY.out.2.2.1
                have s2 := HVY.out.2.2.2.1
                have t0 := HVY.out.2.2.2.2 0
                have t1 := HVY.out.2.2.2.2 1
                have t2 := HVY.out.2.2.2.2 2
                go_simp
                clear s0 t0 s1 t1 s2 t2
                obtain ⟨W19, hWn⟩ : ∃ xw9, (((W18.setCell ⟨by', 0, none⟩ (.slice yso Y.s.length ysc)).setCell ⟨by', 1, none⟩ (.slice yio Y.l.length yic)).setCell ⟨by', 2, none⟩ (.int .i64 Y.f)) = xw9 := ⟨_, rfl⟩
                rw [hWn]
                have HNE := Lib.hid (show bx ≠ by' by (have := HZ.out; omega))
                replace HVY := Lib.hid (show At3 W19 by' (.slice yso Y.s.length ysc) (.slice yio Y.l.length yic) (.int .i64 Y.f) by rw [← hWn]; exact At3.put3 HVY.out _ _ _)
                replace HVX := Lib.hid (show At3 W19 bx (.slice xso X.s.length xsc) (.slice xio X.l.length xic) (.int .i64 X.f) by rw [← hWn]; exact (((HVX.out.grown (grown_setCell _ ⟨by', 0, none⟩ _) (by simpa using HNE.out)).grown (grown_setCell _ ⟨by', 1, none⟩ _) (by simpa using HNE.out)).grown (grown_setCell _ ⟨by', 2, none⟩ _) (by simpa using HNE.out)))
                replace HXP := Lib.hid (show IsP W19 (fun b => b < w0.heap.size ∨ (W13.heap.size ≤ b ∧ b < W14.heap.size)) (.agg #[.slice xso X.s.length xsc, .slice xio X.l.length xic, .int .i64 X.f]) X by
                  have hno : ¬ (by' < w0.heap.size ∨ (W13.heap.size ≤ by' ∧ by' < W14.heap.size)) := by (have := HZ.out; omega)
                  rw [← hWn]; exact HXP.out.keep (((Kept.setCell _ _ _ hno).trans (Kept.setCell _ _ _ hno)).trans (Kept.setCell _ _ _ hno)) (fun _ _ h => h))
                replace HYP := Lib.hid (show IsP W19 (fun b => b < w0.heap.size ∨ (W16.heap.size ≤ b ∧ b < W17.heap.size)) (.agg #[.slice yso Y.s.length ysc, .slice yio Y.l.length yic, .int .i64 Y.f]) Y by
                  have hno : ¬ (by' < w0.heap.size ∨ (W16.heap.size ≤ by' ∧ by' < W17.heap.size)) := by (have := HZ.out; omega)
                  rw [← hWn]; exact HYP.out.keep (((Kept.setCell _ _ _ hno).trans (Kept.setCell _ _ _ hno)).trans (Kept.setCell _ _ _ hno)) (fun _ _ h => h))
                replace HW0 := Lib.hid (show Below w0.heap.size w0 W19 by rw [← hWn]; exact (((HW0.out.setCell (by show w0.heap.size ≤ by'; exact HG1.out) _).setCell (by show w0.heap.size ≤ by'; exact HG1.out) _).setCell (by show w0.heap.size ≤ by'; exact HG1.out) _))
                clear hWn HNE
                refine hK.out _ _ ?_ (fun hHeld => ?_)
                · exact HHL.out _ HW0.out
                clear hK K
                refine wpAnyH_done (by kernel_rfl) ?_ _
                clear hHeld
                exact ⟨rfl, bx, by', xso, xio, yso, yio, xsc, xic, ysc, yic, rfl, HVX.out, HVY.out, HXP.out.wide (fun _ _ _ => trivial), HYP.out.wide (fun _ _ _ => trivial), HW0.out⟩
              exact AllReadyH.nil
            exact AllReadyH.nil
          exact AllReadyH.nil
        exact AllReadyH.nil
      refine AllReadyH.cons (o := _) rfl (fun K hK => ?_) ?_
      · clear hHeld
        go_simp
        obtain ⟨W15, hWn⟩ : ∃ xw9, W14.alloc (.cells #[.slice none 0 0, .slice none 0 0, .int .i64 0] 25) = xw9 := ⟨_, rfl⟩
        have hB : Below W14.heap.size W14 W15 := by rw [← hWn]; exact below_new _ _
        have hNB : At3 W15 W14.heap.size (.slice none 0 0) (.slice none 0 0) (.int .i64 0) := by rw [← hWn]; exact At3.new _ _ _ _ _
        rw [hWn]
        clear hWn
        obtain ⟨by', hnm⟩ : ∃ x, W14.heap.size = x := ⟨_, rfl⟩
        rw [hnm] at hNB ⊢
        replace HZ := Lib.hid (And.intro HZ.out (And.intro hnm hNB.1))
        replace HW0 := Lib.hid (HW0.out.trans (hB.mono HW0.out.size))
        replace HXP := Lib.hid (HXP.out.grow hB)
        have HVY := Lib.hid hNB
        clear hNB hB hnm
        have HG1 := Lib.hid (show w0.heap.size ≤ by' by (have := HZ.out; omega))
        replace HZ := Lib.hid (And.intro HZ.out HG1.out)
        refine hK.out _ _ ?_ (fun hHeld => ?_)
        · exact HHL.out _ HW0.out
        clear hK K
        refine wpAnyH_ready (rs := [3, 4]) (by kernel_rfl) (by simp) ?_
        refine AllReadyH.cons (o := _) rfl (fun K hK => ?_) ?_
        · clear hHeld
          go_simp
          have HWO1 := Lib.hid (show w.heap.size ≤ w0.heap.size from HWW.out)
          refine (ptidy_calls 40 _ q _ _ HCQ.out (HI2.out.grow HW0.out)).mono ?_
          rintro e W16 ⟨uy, rfl, hY, hB⟩
          replace HZ := Lib.hid (And.intro HZ.out hB.size)
          replace HW0 := Lib.hid (HW0.out.trans (hB.mono HW0.out.size))
          replace HXP := Lib.hid (HXP.out.grow hB)
          replace HVY := Lib.hid (HVY.out.below hB)
          rw [← HXE.out.2] at hY
          obtain ⟨yso, ysc, yio, yic, rfl, _⟩ := hY.opened
          have HYP := Lib.hid (show IsP W16 (fun b => b < w0.heap.size ∨ (W15.heap.size ≤ b ∧ b < W16.heap.size)) (.agg #[.slice yso Y.s.length ysc, .slice yio Y.l.length yic, .int .i64 Y.f]) Y from hY.wide (fun b h1 h2 => by
            rcases h2 with h2 | h2
            · exact .inl (Nat.lt_of_lt_of_le h2.1 HWO1.out)
            · exact .inr ⟨h2, h1⟩))
          clear hY
          clear hB
          try go_simp
          refine hK.out _ _ ?_ (fun hHeld => ?_)
          · exact HHL.out _ HW0.out
          clear hK K
          refine wpAnyH_ready (rs := [4]) (by kernel_rfl) (by simp) ?_
          refine AllReadyH.cons (o := _) rfl (fun K hK => ?_) ?_
          · clear hHeld
            go_simp
            obtain ⟨W17, hWn⟩ : ∃ xw9, W16.alloc (.cells #[.slice none 0 0, .slice none 0 0, .int .i64 0] 25) = xw9 := ⟨_, rfl⟩
            have hB : Below W16.heap.size W16 W17 := by rw [← hWn]; exact below_new _ _
            have hNB : At3 W17 W16.heap.size (.slice none 0 0) (.slice none 0 0) (.int .i64 0) := by rw [← hWn]; exact At3.new _ _ _ _ _
            rw [hWn]
            clear hWn
            obtain ⟨bx, hnm⟩ : ∃ x, W16.heap.size = x := ⟨_, rfl⟩
            rw [hnm] at hNB ⊢
            replace HZ := Lib.hid (And.intro HZ.out (And.intro hnm hNB.1))
            replace HW0 := Lib.hid (HW0.out.trans (hB.mono HW0.out.size))
            replace HXP := Lib.hid (HXP.out.grow hB)
            replace HVY := Lib.hid (HVY.out.below hB)
            replace HYP := Lib.hid (HYP.out.grow hB)
            have HVX := Lib.hid hNB
            clear hNB hB hnm
            have HG0 := Lib.hid (show w0.heap.size ≤ bx by (have := HZ.out; omega))
            replace HZ := Lib.hid (And.intro HZ.out HG0.out)
            refine hK.out _ _ ?_ (fun hHeld => ?_)
            · exact HHL.out _ HW0.out
            clear hK K
            refine wpAnyH_ready (rs := [6]) (by kernel_rfl) (by simp) ?_
            refine AllReadyH.cons (o := _) rfl (fun K hK => ?_) ?_
            · clear hHeld
              have s0 := HVX.out.2.1
              have s1 := HVX.out.2.2.1
              have s2 := HVX.out.2.2.2.1
              have t0 := HVX.out.2.2.2.2 0
              have t1 := HVX.out.2.2.2.2 1
              have t2 := HVX.out.2.2.2.2 2
              go_simp
              clear s0 t0 s1 t1 s2 t2
              obtain ⟨W18, hWn⟩ : ∃ xw9, (((W17.setCell ⟨bx, 0, none⟩ (.slice xso X.s.length xsc)).setCell ⟨bx, 1, none⟩ (.slice xio X.l.length xic)).setCell ⟨bx, 2, none⟩ (.int .i64 X.f)) = xw9 := ⟨_, rfl⟩
              rw [hWn]
              have HNE := Lib.hid (show by' ≠ bx by (have := HZ.out; omega))
              replace HVX := Lib.hid (show At3 W18 bx (.slice xso X.s.length xsc) (.slice xio X.l.length xic) (.int .i64 X.f) by rw [← hWn]; exact At3.put3 HVX.out _ _ _)
              replace HVY := Lib.hid (show At3 W18 by' (.slice none 0 0) (.slice none 0 0) (.int .i64 0) by rw [← hWn]; exact (((HVY.out.grown (grown_setCell _ ⟨bx, 0, none⟩ _) (by simpa using HNE.out)).grown (grown_setCell _ ⟨bx, 1, none⟩ _) (by simpa using HNE.out)).grown (grown_setCell _ ⟨bx, 2, none⟩ _) (by simpa using HNE.out)))
              replace HXP := Lib.hid (show IsP W18 (fun b => b < w0.heap.size ∨ (W13.heap.size ≤ b ∧ b < W14.heap.size)) (.agg #[.slice xso X.s.length xsc, .slice xio X.l.length xic, .int .i64 X.f]) X by
                have hno : ¬ (bx < w0.heap.size ∨ (W13.heap.size ≤ bx ∧ bx < W14.heap.size)) := by (have := HZ.out; omega)
                rw [← hWn]; exact HXP.out.keep (((Kept.setCell _ _ _ hno).trans (Kept.setCell _ _ _ hno)).trans (Kept.setCell _ _ _ hno)) (fun _ _ h => h))
              replace HYP := Lib.hid (show IsP W18 (fun b => b < w0.heap.size ∨ (W15.heap.size ≤ b ∧ b < W16.heap.size)) (.agg #[.slice yso Y.s.length ysc, .slice yio Y.l.length yic, .int .i64 Y.f]) Y by
                have hno : ¬ (bx < w0.heap.size ∨ (W15.heap.size ≤ bx ∧ bx < W16.heap.size)) := by (have := HZ.out; omega)
                rw [← hWn]; exact HYP.out.keep (((Kept.setCell _ _ _ hno).trans (Kept.setCell _ _ _ hno)).trans (Kept.setCell _ _ _ hno)) (fun _ _ h => h))
              replace HW0 := Lib.hid (show Below w0.heap.size w0 W18 by rw [← hWn]; exact (((HW0.out.setCell (by show w0.heap.size ≤ bx; exact HG0.out) _).setCell (by show w0.heap.size ≤ bx; exact HG0.out) _).setCell (by show w0.heap.size ≤ bx; exact HG0.out) _))
              clear hWn HNE
              refine hK.out _ _ ?_ (fun hHeld => ?_)
              · exact HHL.out _ HW0.out
              clear hK K
              refine wpAnyH_ready (rs := [7]) (by kernel_rfl) (by simp) ?_
              refine AllReadyH.cons (o := _) rfl (fun K hK => ?_) ?_
              · clear hHeld
                have s0 := HVY.out.2.1
                have s1 := HVY.out.2.2.1
                have s2 := HVY.out.2.2.2.1
                have t0 := HVY.out.2.2.2.2 0
                have t1 := HVY.out.2.2.2.2 1
                have t2 := HVY.out.2.2.2.2 2
                go_simp
                clear s0 t0 s1 t1 s2 t2
                obtain ⟨W19, hWn⟩ : ∃ xw9, (((W18.setCell ⟨by', 0, none⟩ (.slice yso Y.s.length ysc)).setCell ⟨by', 1, none⟩ (.slice yio Y.l.length yic)).setCell ⟨by', 2, none⟩ (.int .i64 Y.f)) = xw9 := ⟨_, rfl⟩
                rw [hWn]
                have HNE := Lib.hid (show bx ≠ by' by (have := HZ.out; omega))
                replace HVY := Lib.hid (show At3 W19 by' (.slice yso Y.s.length ysc) (.slice yio Y.l.length yic) (.int .i64 Y.f) by rw [← hWn]; exact At3.put3 HVY.out _ _ _)
                replace HVX := Lib.hid (show At3 W19 bx (.slice xso X.s.length xsc) (.slice xio X.l.length xic) (.int .i64 X.f) by rw [← hWn]; exact (((HVX.out.grown (grown_setCell _ ⟨by', 0, none⟩ _) (by simpa using HNE.out)).grown (grown_setCell _ ⟨by', 1, none⟩ _) (by simpa using HNE.out)).grown (grown_setCell _ ⟨by', 2, none⟩ _) (by simpa using HNE.out)))
                replace HXP := Lib.hid (show IsP W19 (fun b => b < w0.heap.size ∨ (W13.heap.size ≤ b ∧ b < W14.heap.size)) (.agg #[.slice xso X.s.length xsc, .slice xio X.l.length xic, .int .i64 X.f]) X by
                  have hno : ¬ (by' < w0.heap.size ∨ (W13.heap.size ≤ by' ∧ by' < W14.heap.size)) := by (have := HZ.out; omega)
                  rw [← hWn]; exact HXP.out.keep (((Kept.setCell _ _ _ hno).trans (Kept.setCell _ _ _ hno)).trans (Kept.setCell _ _ _ hno)) (fun _ _ h => h))
                replace HYP := Lib.hid (show IsP W19 (fun b => b < w0.heap.size ∨ (W15.heap.size ≤ b ∧ b < W16.heap.size)) (.agg #[.slice yso Y.s.length ysc, .slice yio Y.l.length yic, .int .i64 Y.f]) Y by
                  have hno : ¬ (by' < w0.heap.size ∨ (W15.heap.size ≤ by' ∧ by' < W16.heap.size)) := by (have := HZ.out; omega)
                  rw [← hWn]; exact HYP.out.keep (((Kept.setCell _ _ _ hno).trans (Kept.setCell _ _ _ hno)).trans (Kept.setCell _ _ _ hno)) (fun _ _ h => h))
                replace HW0 := Lib.hid (show Below w0.heap.size w0 W19 by rw [← hWn]; exact (((HW0.out.setCell (by show w0.heap.size ≤ by'; exact HG1.out) _).setCell (by show w0.heap.size ≤ by'; exact HG1.out) _).setCell (by show w0.heap.size ≤ by'; exact HG1.out) _))
                clear hWn HNE
                refine hK.out _ _ ?_ (fun hHeld => ?_)
                · exact HHL.out _ HW0.out
                clear hK K
                refine wpAnyH_done (by kernel_rfl) ?_ _
                clear hHeld
                exact ⟨rfl, bx, by', xso, xio, yso, yio, xsc, xic, ysc, yic, rfl, HVX.out, HVY.out, HXP.out.wide (fun _ _ _ => trivial), HYP.out.wide (fun _ _ _ => trivial), HW0.out⟩
              exact AllReadyH.nil
            exact AllReadyH.nil
          exact AllReadyH.nil
        refine AllReadyH.cons (o := _) rfl (fun K hK => ?_) ?_
        · clear hHeld
          go_simp
          obtain ⟨W16, hWn⟩ : ∃ xw9, W15.alloc (.cells #[.slice none 0 0, .slice none 0 0, .int .i64 0] 25) = xw9 := ⟨_, rfl⟩
          have hB : Below W15.heap.size W15 W16 := by rw [← hWn]; exact below_new _ _
          have hNB : At3 W16 W15.heap.size (.slice none 0 0) (.slice none 0 0) (.int .i64 0) := by rw [← hWn]; exact At3.new _ _ _ _ _
          rw [hWn]
          clear hWn
          obtain ⟨bx, hnm⟩ : ∃ x, W15.heap.size = x := ⟨_, rfl⟩
          rw [hnm] at hNB ⊢
          replace HZ := Lib.hid (And.intro HZ.out (And.intro hnm hNB.1))
          replace HW0 := Lib.hid (HW0.out.trans (hB.mono HW0.out.size))
          replace HXP := Lib.hid (HXP.out.grow hB)
          replace HVY := Lib.hid (HVY.out.below hB)
          have HVX := Lib.hid hNB
          clear hNB hB hnm
          have HG0 := Lib.hid (show w0.heap.size ≤ bx by (have := HZ.out; omega))
          replace HZ := Lib.hid (And.intro HZ.out HG0.out)
          refine hK.out _ _ ?_ (fun hHeld => ?_)
          · exact HHL.out _ HW0.out
          clear hK K
          refine wpAnyH_ready (rs := [3]) (by kernel_rfl) (by simp) ?_
          refine AllReadyH.cons (o := _) rfl (fun K hK => ?_) ?_
          · clear hHeld
            go_simp
            have HWO1 := Lib.hid (show w.heap.size ≤ w0.heap.size from HWW.out)
            refine (ptidy_calls 40 _ q _ _ HCQ.out (HI2.out.grow HW0.out)).mono ?_
            rintro e W17 ⟨uy, rfl, hY, hB⟩
            replace HZ := Lib.hid (And.intro HZ.out hB.size)
            replace HW0 := Lib.hid (HW0.out.trans (hB.mono HW0.out.size))
            replace HXP := Lib.hid (HXP.out.grow hB)
            replace HVY := Lib.hid (HVY.out.below hB)
            replace HVX := Lib.hid (HVX.out.below hB)
            rw [← HXE.out.2] at hY
            obtain ⟨yso, ysc, yio, yic, rfl, _⟩ := hY.opened
            have HYP := Lib.hid (show IsP W17 (fun b => b < w0.heap.size ∨ (W16.heap.size ≤ b ∧ b < W17.heap.size)) (.agg #[.slice yso Y.s.length ysc, .slice yio Y.l.length yic, .int .i64 Y.f]) Y from hY.wide (fun b h1 h2 => by
              rcases h2 with h2 | h2
              · exact .inl (Nat.lt_of_lt_of_le h2.1 HWO1.out)
              · exact .inr ⟨h2, h1⟩))
            clear hY
            clear hB
            try go_simp
            refine hK.out _ _ ?_ (fun hHeld => ?_)
            · exact HHL.out _ HW0.out
            clear hK K
            refine wpAnyH_ready (rs := [6]) (by kernel_rfl) (by simp) ?_
            refine AllReadyH.cons (o := _) rfl (fun K hK => ?_) ?_
            · clear hHeld
              have s0 := HVX.out.2.1
              have s1 := HVX.out.2.2.1
              have s2 := HVX.out.2.2.2.1
              have t0 := HVX.out.2.2.2.2 0
              have t1 := HVX.out.2.2.2.2 1
              have t2 := HVX.out.2.2.2.2 2
              go_simp
              clear s0 t0 s1 t1 s2 t2
              obtain ⟨W18, hWn⟩ : ∃ xw9, (((W17.setCell ⟨bx, 0, none⟩ (.slice xso X.s.length xsc)).setCell ⟨bx, 1, none⟩ (.slice xio X.l.length xic)).setCell ⟨bx, 2, none⟩ (.int .i64 X.f)) = xw9 := ⟨_, rfl⟩
              rw [hWn]
              have HNE := Lib.hid (show by' ≠ bx by (have := HZ.out; omega))
              replace HVX := Lib.hid (show At3 W18 bx (.slice xso X.s.length xsc) (.slice xio X.l.length xic) (.int .i64 X.f) by rw [← hWn]; exact At3.put3 HVX.out _ _ _)
              replace HVY := Lib.hid (show At3 W18 by' (.slice none 0 0) (.slice none 0 0) (.int .i64 0) by rw [← hWn]; exact (((HVY.out.grown (grown_setCell _ ⟨bx, 0, none⟩ _) (by simpa using HNE.out)).grown (grown_setCell _ ⟨bx, 1, none⟩ _) (by simpa using HNE.out)).grown (grown_setCell _ ⟨bx, 2, none⟩ _) (by simpa using HNE.out)))
              replace HXP := Lib.hid (show IsP W18 (fun b => b < w0.heap.size ∨ (W13.heap.size ≤ b ∧ b < W14.heap.size)) (.agg #[.slice xso X.s.length xsc, .slice xio X.l.length xic, .int .i64 X.f]) X by
                have hno : ¬ (bx < w0.heap.size ∨ (W13.heap.size ≤ bx ∧ bx < W14.heap.size)) := by (have := HZ.out; omega)
                rw [← hWn]; exact HXP.out.keep (((Kept.setCell _ _ _ hno).trans (Kept.setCell _ _ _ hno)).trans (Kept.setCell _ _ _ hno)) (fun _ _ h => h))
              replace HYP := Lib.hid (show IsP W18 (fun b => b < w0.heap.size ∨ (W16.heap.size ≤ b ∧ b < W17.heap.size)) (.agg #[.slice yso Y.s.length ysc, .slice yio Y.l.length yic, .int .i64 Y.f]) Y by
                have hno : ¬ (bx < w0.heap.size ∨ (W16.heap.size ≤ bx ∧ bx < W17.heap.size)) := by (have := HZ.out; omega)
                rw [← hWn]; exact HYP.out.keep (((Kept.setCell _ _ _ hno).trans (Kept.setCell _ _ _ hno)).trans (Kept.setCell _ _ _ hno)) (fun _ _ h => h))
              replace HW0 := Lib.hid (show Below w0.heap.size w0 W18 by rw [← hWn]; exact (((HW0.out.setCell (by show w0.heap.size ≤ bx; exact HG0.out) _).setCell (by show w0.heap.size ≤ bx; exact HG0.out) _).setCell (by show w0.heap.size ≤ bx; exact HG0.out) _))
              clear hWn HNE
              refine hK.out _ _ ?_ (fun hHeld => ?_)
              · exact HHL.out _ HW0.out
              clear hK K
              refine wpAnyH_ready (rs := [7]) (by kernel_rfl) (by simp) ?_
              refine AllReadyH.cons (o := _) rfl (fun K hK => ?_) ?_
              · clear hHeld
                have s0 := HVY.out.2.1
                have s1 := HVY.out.2.2.1
                have s2 := HVY.out.2.2.2.1
                have t0 := HVY.out.2.2.2.2 0
                have t1 := HVY.out.2.2.2.2 1
                have t2 := HVY.out.2.2.2.2 2
                go_simp
                clear s0 t0 s1 t1 s2 t2
                obtain ⟨W19, hWn⟩ : ∃ xw9, (((W18.setCell ⟨by', 0, none⟩ (.slice yso Y.s.length ysc)).setCell ⟨by', 1, none⟩ (.slice yio Y.l.length yic)).setCell ⟨by', 2, none⟩ (.int .i64 Y.f)) = xw9 := ⟨_, rfl⟩
                rw [hWn]
                have HNE := Lib.hid (show bx ≠ by' by (have := HZ.out; omega))
                replace HVY := Lib.hid (show At3 W19 by' (.slice yso Y.s.length ysc) (.slice yio Y.l.length yic) (.int .i64 Y.f) by rw [← hWn]; exact At3.put3 HVY.out _ _ _)
                replace HVX := Lib.hid (show At3 W19 bx (.slice xso X.s.length xsc) (.slice xio X.l.length xic) (.int .i64 X.f) by rw [← hWn]; exact (((HVX.out.grown (grown_setCell _ ⟨by', 0, none⟩ _) (by simpa using HNE.out)).grown (grown_setCell _ ⟨by', 1, none⟩ _) (by simpa using HNE.out)).grown (grown_setCell _ ⟨by', 2, none⟩ _) (by simpa using HNE.out)))
                replace HXP := Lib.hid (show IsP W19 (fun b => b < w0.heap.size ∨ (W13.heap.size ≤ b ∧ b < W14.heap.size)) (.agg #[.slice xso X.s.length xsc, .slice xio X.l.length xic, .int .i64 X.f]) X by
                  have hno : ¬ (by' < w0.heap.size ∨ (W13.heap.size ≤ by' ∧ by' < W14.heap.size)) := by (have := HZ.out; omega)
                  rw [← hWn]; exact HXP.out.keep (((Kept.setCell _ _ _ hno).trans (Kept.setCell _ _ _ hno)).trans (Kept.setCell _ _ _ hno)) (fun _ _ h => h))
                replace HYP := Lib.hid (show IsP W19 (fun b => b < w0.heap.size ∨ (W16.heap.size ≤ b ∧ b < W17.heap.size)) (.agg #[.slice yso Y.s.length ysc, .slice yio Y.l.length yic, .int .i64 Y.f]) Y by
                  have hno : ¬ (by' < w0.heap.size ∨ (W16.heap.size ≤ by' ∧ by' < W17.heap.size)) := by (have := HZ.out; omega)
                  rw [← hWn]; exact HYP.out.keep (((Kept.setCell _ _ _ hno).trans (Kept.setCell _ _ _ hno)).trans (Kept.setCell _ _ _ hno)) (fun _ _ h => h))
                replace HW0 := Lib.hid (show Below w0.heap.size w0 W19 by rw [← hWn]; exact (((HW0.out.setCell (by show w0.heap.size ≤ by'; exact HG1.out) _).setCell (by show w0.heap.size ≤ by'; exact HG1.out) _).setCell (by show w0.heap.size ≤ by'; exact HG1.out) _))
                clear hWn HNE
                refine hK.out _ _ ?_ (fun hHeld => ?_)
                · exact HHL.out _ HW0.out
                clear hK K
                refine wpAnyH_done (by kernel_rfl) ?_ _
                clear hHeld
                exact ⟨rfl, bx, by', xso, xio, yso, yio, xsc, xic, ysc, yic, rfl, HVX.out, HVY.out, HXP.out.wide (fun _ _ _ => trivial), HYP.out.wide (fun _ _ _ => trivial), HW0.out⟩
              exact AllReadyH.nil
            exact AllReadyH.nil
          exact AllReadyH.nil
        exact AllReadyH.nil
      exact AllReadyH.nil
    refine AllReadyH.cons (o := _) rfl (fun K hK => ?_) ?_
    · clear hHeld
      go_simp
      obtain ⟨W14, hWn⟩ : ∃ xw9, W13.alloc (.cells #[.slice none 0 0, .slice none 0 0, .int .i64 0] 25) = xw9 := ⟨_, rfl⟩
      have hB : Below W13.heap.size W13 W14 := by rw [← hWn]; exact below_new _ _
      have hNB : At3 W14 W13.heap.size (.slice none 0 0) (.slice none 0 0) (.int .i64 0) := by rw [← hWn]; exact At3.new _ _ _ _ _
      rw [hWn]
      clear hWn
      obtain ⟨bx, hnm⟩ : ∃ x, W13.heap.size = x := ⟨_, rfl⟩
      rw [hnm] at hNB ⊢
      replace HZ := Lib.hid (And.intro HZ.out (And.intro hnm hNB.1))
      replace HW0 := Lib.hid (HW0.out.trans (hB.mono HW0.out.size))
      have HVX := Lib.hid hNB
      clear hNB hB hnm
      have HG0 := Lib.hid (show w0.heap.size ≤ bx by (have := HZ.out; omega))
      replace HZ := Lib.hid (And.intro HZ.out HG0.out)
      refine hK.out _ _ ?_ (fun hHeld => ?_)
      · exact HHL.out _ HW0.out
      clear hK K
      refine wpAnyH_ready (rs := [1, 5]) (by kernel_rfl) (by simp) ?_
      refine AllReadyH.cons (o := _) rfl (fun K hK => ?_) ?_
      · clear hHeld
        go_simp
        have HWO0 := Lib.hid (show w.heap.size ≤ w0.heap.size from HWW.out)
        refine (ptidy_calls 40 _ p _ _ HCP.out (HI.out.grow HW0.out)).mono ?_
        rintro e W15 ⟨ux, rfl, hX, hB⟩
        replace HZ := Lib.hid (And.intro HZ.out hB.size)
        replace HW0 := Lib.hid (HW0.out.trans (hB.mono HW0.out.size))
        replace HVX := Lib.hid (HVX.out.below hB)
        rw [← HXE.out.1] at hX
        obtain ⟨xso, xsc, xio, xic, rfl, _⟩ := hX.opened
        have HXP := Lib.hid (show IsP W15 (fun b => b < w0.heap.size ∨ (W14.heap.size ≤ b ∧ b < W15.heap.size)) (.agg #[.slice xso X.s.length xsc, .slice xio X.l.length xic, .int .i64 X.f]) X from hX.wide (fun b h1 h2 => by
          rcases h2 with h2 | h2
          · exact .inl (Nat.lt_of_lt_of_le h2.1 HWO0.out)
          · exact .inr ⟨h2, h1⟩))
        clear hX
        clear hB
        try go_simp
        refine hK.out _ _ ?_ (fun hHeld => ?_)
        · exact HHL.out _ HW0.out
        clear hK K
        refine wpAnyH_ready (rs := [3, 5]) (by kernel_rfl) (by simp) ?_
        refine AllReadyH.cons (o := _) rfl (fun K hK => ?_) ?_
        · clear hHeld
          go_simp
          have HWO1 := Lib.hid (show w.heap.size ≤ w0.heap.size from HWW.out)
          refine (ptidy_calls 40 _ q _ _ HCQ.out (HI2.out.grow HW0.out)).mono ?_
          rintro e W16 ⟨uy, rfl, hY, hB⟩
          replace HZ := Lib.hid (And.intro HZ.out hB.size)
          replace HW0 := Lib.hid (HW0.out.trans (hB.mono HW0.out.size))
          replace HVX := Lib.hid (HVX.out.below hB)
          replace HXP := Lib.hid (HXP.out.grow hB)
          rw [← HXE.out.2] at hY
          obtain ⟨yso, ysc, yio, yic, rfl, _⟩ := hY.opened
          have HYP := Lib.hid (show IsP W16 (fun b => b < w0.heap.size ∨ (W15.heap.size ≤ b ∧ b < W16.heap.size)) (.agg #[.slice yso Y.s.length ysc, .slice yio Y.l.length yic, .int .i64 Y.f]) Y from hY.wide (fun b h1 h2 => by
            rcases h2 with h2 | h2
            · exact .inl (Nat.lt_of_lt_of_le h2.1 HWO1.out)
            · exact .inr ⟨h2, h1⟩))
          clear hY
          clear hB
          try go_simp
          refine hK.out _ _ ?_ (fun hHeld => ?_)
          · exact HHL.out _ HW0.out
          clear hK K
          refine wpAnyH_ready (rs := [5]) (by kernel_rfl) (by simp) ?_
          refine AllReadyH.cons (o := _) rfl (fun K hK => ?_) ?_
          · clear hHeld
            go_simp
            obtain ⟨W17, hWn⟩ : ∃ xw9, W16.alloc (.cells #[.slice none 0 0, .slice none 0 0, .int .i64 0] 25) = xw9 := ⟨_, rfl⟩
            have hB : Below W16.heap.size W16 W17 := by rw [← hWn]; exact below_new _ _
            have hNB : At3 W17 W16.heap.size (.slice none 0 0) (.slice none 0 0) (.int .i64 0) := by rw [← hWn]; exact At3.new _ _ _ _ _
            rw [hWn]
            clear hWn
            obtain ⟨by', hnm⟩ : ∃ x, W16.heap.size = x := ⟨_, rfl⟩
            rw [hnm] at hNB ⊢
            replace HZ := Lib.hid (And.intro HZ.out (And.intro hnm hNB.1))
            replace HW0 := Lib.hid (HW0.out.trans (hB.mono HW0.out.size))
            replace HVX := Lib.hid (HVX.out.below hB)
            replace HXP := Lib.hid (HXP.out.grow hB)
            replace HYP := Lib.hid (HYP.out.grow hB)
            have HVY := Lib.hid hNB
            clear hNB hB hnm
            have HG1 := Lib.hid (show w0.heap.size ≤ by' by (have := HZ.out; omega))
            replace HZ := Lib.hid (And.intro HZ.out HG1.out)
            refine hK.out _ _ ?_ (fun hHeld => ?_)
            · exact HHL.out _ HW0.out
            clear hK K
            refine wpAnyH_ready (rs := [6]) (by kernel_rfl) (by simp) ?_
            refine AllReadyH.cons (o := _) rfl (fun K hK => ?_) ?_
            · clear hHeld
              have s0 := HVX.out.2.1
              have s1 := HVX.out.2.2.1
              have s2 := HVX.out.2.2.2.1
              have t0 := HVX.out.2.2.2.2 0
              have t1 := HVX.out.2.2.2.2 1
              have t2 := HVX.out.2.2.2.2 2
              go_simp
              clear s0 t0 s1 t1 s2 t2
              obtain ⟨W18, hWn⟩ : ∃ xw9, (((W17.setCell ⟨bx, 0, none⟩ (.slice xso X.s.length xsc)).setCell ⟨bx, 1, none⟩ (.slice xio X.l.length xic)).setCell ⟨bx, 2, none⟩ (.int .i64 X.f)) = xw9 := ⟨_, rfl⟩
              rw [hWn]
              have HNE := Lib.hid (show by' ≠ bx by (have := HZ.out; omega))
              replace HVX := Lib.hid (show At3 W18 bx (.slice xso X.s.length xsc) (.slice xio X.l.length xic) (.int .i64 X.f) by rw [← hWn]; exact At3.put3 HVX.out _ _ _)
              replace HVY := Lib.hid (show At3 W18 by' (.slice none 0 0) (.slice none 0 0) (.int .i64 0) by rw [← hWn]; exact (((HVY.out.grown (grown_setCell _ ⟨bx, 0, none⟩ _) (by simpa using HNE.out)).grown (grown_setCell _ ⟨bx, 1, none⟩ _) (by simpa using HNE.out)).grown (grown_setCell _ ⟨bx, 2, none⟩ _) (by simpa using HNE.out)))
              replace HXP := Lib.hid (show IsP W18 (fun b => b < w0.heap.size ∨ (W14.heap.size ≤ b ∧ b < W15.heap.size)) (.agg #[.slice xso X.s.length xsc, .slice xio X.l.length xic, .int .i64 X.f]) X by
                have hno : ¬ (bx < w0.heap.size ∨ (W14.heap.size ≤ bx ∧ bx < W15.heap.size)) := by (have := HZ.out; omega)
                rw [← hWn]; exact HXP.out.keep (((Kept.setCell _ _ _ hno).trans (Kept.setCell _ _ _ hno)).trans (Kept.setCell _ _ _ hno)) (fun _ _ h => h))
              replace HYP := Lib.hid (show IsP W18 (fun b => b < w0.heap.size ∨ (W15.heap.size ≤ b ∧ b < W16.heap.size)) (.agg #[.slice yso Y.s.length ysc, .slice yio Y.l.length yic, .int .i64 Y.f]) Y by
                have hno : ¬ (bx < w0.heap.size ∨ (W15.heap.size ≤ bx ∧ bx < W16.heap.size)) := by (have := HZ.out; omega)
                rw [← hWn]; exact HYP.out.keep (((Kept.setCell _ _ _ hno).trans (Kept.setCell _ _ _ hno)).trans (Kept.setCell _ _ _ hno)) (fun _ _ h => h))
              replace HW0 := Lib.hid (show Below w0.heap.size w0 W18 by rw [← hWn]; exact (((HW0.out.setCell (by show w0.heap.size ≤ bx; exact HG0.out) _).setCell (by show w0.heap.size ≤ bx; exact HG0.out) _).setCell (by show w0.heap.size ≤ bx; exact HG0.out) _))
              clear hWn HNE
              refine hK.out _ _ ?_ (fun hHeld => ?_)
              · exact HHL.out _ HW0.out
              clear hK K
              refine wpAnyH_ready (rs := [7]) (by kernel_rfl) (by simp) ?_
              refine AllReadyH.cons (o := _) rfl (fun K hK => ?_) ?_
              · clear hHeld
                have s0 := HVY.out.2.1
                have s1 := HVY.out.2.2.1
                have s2 := HVY.out.2.2.2.1
                have t0 := HVY.out.2.2.2.2 0
                have t1 := HVY.out.2.2.2.2 1
                have t2 := HVY.out.2.2.2.2 2
                go_simp
                clear s0 t0 s1 t1 s2 t2
                obtain ⟨W19, hWn⟩ : ∃ xw9, (((W18.setCell ⟨by', 0, none⟩ (.slice yso Y.s.length ysc)).setCell ⟨by', 1, none⟩ (.slice yio Y.l.length yic)).setCell ⟨by', 2, none⟩ (.int .i64 Y.f)) = xw9 := ⟨_, rfl⟩
                rw [hWn]
                have HNE := Lib.hid (show bx ≠ by' by (have := HZ.out; omega))
                replace HVY := Lib.hid (show At3 W19 by' (.slice yso Y.s.length ysc) (.slice yio Y.l.length yic) (.int .i64 Y.f) by rw [← hWn]; exact At3.put3 HVY.out _ _ _)
                replace HVX := Lib.hid (show At3 W19 bx (.slice xso X.s.length xsc) (.slice xio X.l.length xic) (.int .i64 X.f) by rw [← hWn]; exact (((HVX.out.grown (grown_setCell _ ⟨by', 0, none⟩ _) (by simpa using HNE.out)).grown (grown_setCell _ ⟨by', 1, none⟩ _) (by simpa using HNE.out)).grown (grown_setCell _ ⟨by', 2, none⟩ _) (by simpa using HNE.out)))
                replace HXP := Lib.hid (show IsP W19 (fun b => b < w0.heap.size ∨ (W14.heap.size ≤ b ∧ b < W15.heap.size)) (.agg #[.slice xso X.s.length xsc, .slice xio X.l.length xic, .int .i64 X.f]) X by
                  have hno : ¬ (by' < w0.heap.size ∨ (W14.heap.size ≤ by' ∧ by' < W15.heap.size)) := by (have := HZ.out; omega)
                  rw [← hWn]; exact HXP.out.keep (((Kept.setCell _ _ _ hno).trans (Kept.setCell _ _ _ hno)).trans (Kept.setCell _ _ _ hno)) (fun _ _ h => h))
                replace HYP := Lib.hid (show IsP W19 (fun b => b < w0.heap.size ∨ (W15.heap.size ≤ b ∧ b < W16.heap.size)) (.agg #[.slice yso Y.s.length ysc, .slice yio Y.l.length yic, .int .i64 Y.f]) Y by
                  have hno : ¬ (by' < w0.heap.size ∨ (W15.heap.size ≤ by' ∧ by' < W16.heap.size)) := by (have := HZ.out; omega)
                  rw [← hWn]; exact HYP.out.keep (((Kept.setCell _ _ _ hno).trans (Kept.setCell _ _ _ hno)).trans (Kept.setCell _ _ _ hno)) (fun _ _ h => h))
                replace HW0 := Lib.hid (show Below w0.heap.size w0 W19 by rw [← hWn]; exact (((HW0.out.setCell (by show w0.heap.size ≤ by'; exact HG1.out) _).setCell (by show w0.heap.size ≤ by'; exact HG1.out) _).setCell (by show w0.heap.size ≤ by'; exact HG1.out) _))
                clear hWn HNE
                refine hK.out _ _ ?_ (fun hHeld => ?_)
                · exact HHL.out _ HW0.out
                clear hK K
                refine wpAnyH_done (by kernel_rfl) ?_ _
                clear hHeld
                exact ⟨rfl, bx, by', xso, xio, yso, yio, xsc, xic, ysc, yic, rfl, HVX.out, HVY.out, HXP.out.wide (fun _ _ _ => trivial), HYP.out.wide (fun _ _ _ => trivial), HW0.out⟩
              exact AllReadyH.nil
            exact AllReadyH.nil
          exact AllReadyH.nil
        refine AllReadyH.cons (o := _) rfl (fun K hK => ?_) ?_
        · clear hHeld
          go_simp
          obtain ⟨W16, hWn⟩ : ∃ xw9, W15.alloc (.cells #[.slice none 0 0, .slice none 0 0, .int .i64 0] 25) = xw9 := ⟨_, rfl⟩
          have hB : Below W15.heap.size W15 W16 := by rw [← hWn]; exact below_new _ _
          have hNB : At3 W16 W15.heap.size (.slice none 0 0) (.slice none 0 0) (.int .i64 0) := by rw [← hWn]; exact At3.new _ _ _ _ _
          rw [hWn]
          clear hWn
          obtain ⟨by', hnm⟩ : ∃ x, W15.heap.size = x := ⟨_, rfl⟩
          rw [hnm] at hNB ⊢
          replace HZ := Lib.hid (And.intro HZ.out (And.intro hnm hNB.1))
          replace HW0 := Lib.hid (HW0.out.trans (hB.mono HW0.out.size))
          replace HVX := Lib.hid (HVX.out.below hB)
          replace HXP := Lib.hid (HXP.out.grow hB)
          have HVY := Lib.hid hNB
          clear hNB hB hnm
          have HG1 := Lib.hid (show w0.heap.size ≤ by' by (have := HZ.out; omega))
          replace HZ := Lib.hid (And.intro HZ.out HG1.out)
          refine hK.out _ _ ?_ (fun hHeld => ?_)
          · exact HHL.out _ HW0.out
          clear hK K
          refine wpAnyH_ready (rs := [3]) (by kernel_rfl) (by simp) ?_
          refine AllReadyH.cons (o := _) rfl (fun K hK => ?_) ?_
          · clear hHeld
            go_simp
            have HWO1 := Lib.hid (show w.heap.size ≤ w0.heap.size from HWW.out)
            refine (ptidy_calls 40 _ q _ _ HCQ.out (HI2.out.grow HW0.out)).mono ?_
            rintro e W17 ⟨uy, rfl, hY, hB⟩
            replace HZ := Lib.hid (And.intro HZ.out hB.size)
            replace HW0 := Lib.hid (HW0.out.trans (hB.mono HW0.out.size))
            replace HVX := Lib.hid (HVX.out.below hB)
            replace HXP := Lib.hid (HXP.out.grow hB)
            replace HVY := Lib.hid (HVY.out.below hB)
            rw [← HXE.out.2] at hY
            obtain ⟨yso, ysc, yio, yic, rfl, _⟩ := hY.opened
            have HYP := Lib.hid (show IsP W17 (fun b => b < w0.heap.size ∨ (W16.heap.size ≤ b ∧ b < W17.heap.size)) (.agg #[.slice yso Y.s.length ysc, .slice yio Y.l.length yic, .int .i64 Y.f]) Y from hY.wide (fun b h1 h2 => by
              rcases h2 with h2 | h2
              · exact .inl (Nat.lt_of_lt_of_le h2.1 HWO1.out)
              · exact .inr ⟨h2, h1⟩))
            clear hY
            clear hB
            try go_simp
            refine hK.out _ _ ?_ (fun hHeld => ?_)
            · exact HHL.out _ HW0.out
            clear hK K
            refine wpAnyH_ready (rs := [6]) (by kernel_rfl) (by simp) ?_
            refine AllReadyH.cons (o := _) rfl (fun K hK => ?_) ?_
            · clear hHeld
              have s0 := HVX.out.2.1
              have s1 := HVX.out.2.2.1
              have s2 := HVX.out.2.2.2.1
              have t0 := HVX.out.2.2.2.2 0
              have t1 := HVX.out.2.2.2.2 1
              have t2 := HVX.out.2.2.2.2 2
              go_simp
              clear s0 t0 s1 t1 s2 t2
              obtain ⟨W18, hWn⟩ : ∃ xw9, (((W17.setCell ⟨bx, 0, none⟩ (.slice xso X.s.length xsc)).setCell ⟨bx, 1, none⟩ (.slice xio X.l.length xic)).setCell ⟨bx, 2, none⟩ (.int .i64 X.f)) = xw9 := ⟨_, rfl⟩
              rw [hWn]
              have HNE := Lib.hid (show by' ≠ bx by (have := HZ.out; omega))
              replace HVX := Lib.hid (show At3 W18 bx (.slice xso X.s.length xsc) (.slice xio X.l.length xic) (.int .i64 X.f) by rw [← hWn]; exact At3.put3 HVX.out _ _ _)
              replace HVY := Lib.hid (show At3 W18 by' (.slice none 0 0) (.slice none 0 0) (.int .i64 0) by rw [← hWn]; exact (((HVY.out.grown (grown_setCell _ ⟨bx, 0, none⟩ _) (by simpa using HNE.out)).grown (grown_setCell _ ⟨bx, 1, none⟩ _) (by simpa using HNE.out)).grown (grown_setCell _ ⟨bx, 2, none⟩ _) (by simpa using HNE.out)))
              replace HXP := Lib.hid (show IsP W18 (fun b => b < w0.heap.size ∨ (W14.heap.size ≤ b ∧ b < W15.heap.size)) (.agg #[.slice xso X.s.length xsc, .slice xio X.l.length xic, .int .i64 X.f]) X by
                have hno : ¬ (bx < w0.heap.size ∨ (W14.heap.size ≤ bx ∧ bx < W15.heap.size)) := by (have := HZ.out; omega)
                rw [← hWn]; exact HXP.out.keep (((Kept.setCell _ _ _ hno).trans (Kept.setCell _ _ _ hno)).trans (Kept.setCell _ _ _ hno)) (fun _ _ h => h))
              replace HYP := Lib.hid (show IsP W18 (fun b => b < w0.heap.size ∨ (W16.heap.size ≤ b ∧ b < W17.heap.size)) (.agg #[.slice yso Y.s.length ysc, .slice yio Y.l.length yic, .int .i64 Y.f]) Y by
                have hno : ¬ (bx < w0.heap.size ∨ (W16.heap.size ≤ bx ∧ bx < W17.heap.size)) := by (have := HZ.out; omega)
                rw [← hWn]; exact HYP.out.keep (((Kept.setCell _ _ _ hno).trans (Kept.setCell _ _ _ hno)).trans (Kept.setCell _ _ _ hno)) (fun _ _ h => h))
              replace HW0 := Lib.hid (show Below w0.heap.size w0 W18 by rw [← hWn]; exact (((HW0.out.setCell (by show w0.heap.size ≤ bx; exact HG0.out) _).setCell (by show w0.heap.size ≤ bx; exact HG0.out) _).setCell (by show w0.heap.size ≤ bx; exact HG0.out) _))
              clear hWn HNE
              refine hK.out _ _ ?_ (fun hHeld => ?_)
              · exact HHL.out _ HW0.out
              clear hK K
              refine wpAnyH_ready (rs := [7]) (by kernel_rfl) (by simp) ?_
              refine AllReadyH.cons (o := _) rfl (fun K hK => ?_) ?_
              · clear hHeld
                have s0 := HVY.out.2.1
                have s1 := HVY.out.2.2.1
                have s2 := HVY.out.2.2.2.1
                have t0 := HVY.out.2.2.2.2 0
                have t1 := HVY.out.2.2.2.2 1
                have t2 := HVY.out.2.2.2.2 2
                go_simp
                clear s0 t0 s1 t1 s2 t2
                obtain ⟨W19, hWn⟩ : ∃ xw9, (((W18.setCell ⟨by', 0, none⟩ (.slice yso Y.s.length ysc)).setCell ⟨by', 1, none⟩ (.slice yio Y.l.length yic)).setCell ⟨by', 2, none⟩ (.int .i64 Y.f)) = xw9 := ⟨_, rfl⟩
                rw [hWn]
                have HNE := Lib.hid (show bx ≠ by' by (have := HZ.out; omega))
                replace HVY := Lib.hid (show At3 W19 by' (.slice yso Y.s.length ysc) (.slice yio Y.l.length yic) (.int .i64 Y.f) by rw [← hWn]; exact At3.put3 HVY.out _ _ _)
                replace HVX := Lib.hid (show At3 W19 bx (.slice xso X.s.length xsc) (.slice xio X.l.length xic) (.int .i64 X.f) by rw [← hWn]; exact (((HVX.out.grown (grown_setCell _ ⟨by', 0, none⟩ _) (by simpa using HNE.out)).grown (grown_setCell _ ⟨by', 1, none⟩ _) (by simpa using HNE.out)).grown (grown_setCell _ ⟨by', 2, none⟩ _) (by simpa using HNE.out)))
                replace HXP := Lib.hid (show IsP W19 (fun b => b < w0.heap.size ∨ (W14.heap.size ≤ b ∧ b < W15.heap.size)) (.agg #[.slice xso X.s.length xsc, .slice xio X.l.length xic, .int .i64 X.f]) X by
                  have hno : ¬ (by' < w0.heap.size ∨ (W14.heap.size ≤ by' ∧ by' < W15.heap.size)) := by (have := HZ.out; omega)
                  rw [← hWn]; exact HXP.out.keep (((Kept.setCell _ _ _ hno).trans (Kept.setCell _ _ _ hno)).trans (Kept.setCell _ _ _ hno)) (fun _ _ h => h))
                replace HYP := Lib.hid (show IsP W19 (fun b => b < w0.heap.size ∨ (W16.heap.size ≤ b ∧ b < W17.heap.size)) (.agg #[.slice yso Y.s.length ysc, .slice yio Y.l.length yic, .int .i64 Y.f]) Y by
                  have hno : ¬ (by' < w0.heap.size ∨ (W16.heap.size ≤ by' ∧ by' < W17.heap.size)) := by (have := HZ.out; omega)
                  rw [← hWn]; exact HYP.out.keep (((Kept.setCell _ _ _ hno).trans (Kept.setCell _ _ _ hno)).trans (Kept.setCell _ _ _ hno)) (fun _ _ h => h))
                replace HW0 := Lib.hid (show Below w0.heap.size w0 W19 by rw [← hWn]; exact (((HW0.out.setCell (by show w0.heap.size ≤ by'; exact HG1.out) _).setCell (by show w0.heap.size ≤ by'; exact HG1.out) _).setCell (by show w0.heap.size ≤ by'; exact HG1.out) _))
                clear hWn HNE
                refine hK.out _ _ ?_ (fun hHeld => ?_)
                · exact HHL.out _ HW0.out
                clear hK K
                refine wpAnyH_done (by kernel_rfl) ?_ _
                clear hHeld
                exact ⟨rfl, bx, by', xso, xio, yso, yio, xsc, xic, ysc, yic, rfl, HVX.out, HVY.out, HXP.out.wide (fun _ _ _ => trivial), HYP.out.wide (fun _ _ _ => trivial), HW0.out⟩
              exact AllReadyH.nil
            exact AllReadyH.nil
          exact AllReadyH.nil
        exact AllReadyH.nil
      refine AllReadyH.cons (o := _) rfl (fun K hK => ?_) ?_
      · clear hHeld
        go_simp
        obtain ⟨W15, hWn⟩ : ∃ xw9, W14.alloc (.cells #[.slice none 0 0, .slice none 0 0, .int .i64 0] 25) = xw9 := ⟨_, rfl⟩
        have hB : Below W14.heap.size W14 W15 := by rw [← hWn]; exact below_new _ _
        have hNB : At3 W15 W14.heap.size (.slice none 0 0) (.slice none 0 0) (.int .i64 0) := by rw [← hWn]; exact At3.new _ _ _ _ _
        rw [hWn]
        clear hWn
        obtain ⟨by', hnm⟩ : ∃ x, W14.heap.size = x := ⟨_, rfl⟩
        rw [hnm] at hNB ⊢
        replace HZ := Lib.hid (And.intro HZ.out (And.intro hnm hNB.1))
        replace HW0 := Lib.hid (HW0.out.trans (hB.mono HW0.out.size))
        replace HVX := Lib.hid (HVX.out.below hB)
        have HVY := Lib.hid hNB
        clear hNB hB hnm
        have HG1 := Lib.hid (show w0.heap.size ≤ by' by (have := HZ.out; omega))
        replace HZ := Lib.hid (And.intro HZ.out HG1.out)
        refine hK.out _ _ ?_ (fun hHeld => ?_)
        · exact HHL.out _ HW0.out
        clear hK K
        refine wpAnyH_ready (rs := [1]) (by kernel_rfl) (by simp) ?_
        refine AllReadyH.cons (o := _) rfl (fun K hK => ?_) ?_
        · clear hHeld
          go_simp
          have HWO0 := Lib.hid (show w.heap.size ≤ w0.heap.size from HWW.out)
          refine (ptidy_calls 40 _ p _ _ HCP.out (HI.out.grow HW0.out)).mono ?_
          rintro e W16 ⟨ux, rfl, hX, hB⟩
          replace HZ := Lib.hid (And.intro HZ.out hB.size)
          replace HW0 := Lib.hid (HW0.out.trans (hB.mono HW0.out.size))
          replace HVX := Lib.hid (HVX.out.below hB)
          replace HVY := Lib.hid (HVY.out.below hB)
          rw [← HXE.out.1] at hX
          obtain ⟨xso, xsc, xio, xic, rfl, _⟩ := hX.opened
          have HXP := Lib.hid (show IsP W16 (fun b => b < w0.heap.size ∨ (W15.heap.size ≤ b ∧ b < W16.heap.size)) (.agg #[.slice xso X.s.length xsc, .slice xio X.l.length xic, .int .i64 X.f]) X from hX.wide (fun b h1 h2 => by
            rcases h2 with h2 | h2
            · exact .inl (Nat.lt_of_lt_of_le h2.1 HWO0.out)
            · exact .inr ⟨h2, h1⟩))
          clear hX
          clear hB
          try go_simp
          refine hK.out _ _ ?_ (fun hHeld => ?_)
          · exact HHL.out _ HW0.out
          clear hK K
          refine wpAnyH_ready (rs := [3]) (by kernel_rfl) (by simp) ?_
          refine AllReadyH.cons (o := _) rfl (fun K hK => ?_) ?_
          · clear hHeld
            go_simp
            have HWO1 := Lib.hid (show w.heap.size ≤ w0.heap.size from HWW.out)
            refine (ptidy_calls 40 _ q _ _ HCQ.out (HI2.out.grow HW0.out)).mono ?_
            rintro e W17 ⟨uy, rfl, hY, hB⟩
            replace HZ := Lib.hid (And.intro HZ.out hB.size)
            replace HW0 := Lib.hid (HW0.out.trans (hB.mono HW0.out.size))
            replace HVX := Lib.hid (HVX.out.below hB)
            replace HVY := Lib.hid (HVY.out.below hB)
            replace HXP := Lib.hid (HXP.out.grow hB)
            rw [← HXE.out.2] at hY
            obtain ⟨yso, ysc, yio, yic, rfl, _⟩ := hY.opened
            have HYP := Lib.hid (show IsP W17 (fun b => b < w0.heap.size ∨ (W16.heap.size ≤ b ∧ b < W17.heap.size)) (.agg #[.slice yso Y.s.length ysc, .slice yio Y.l.length yic, .int .i64 Y.f]) Y from hY.wide (fun b h1 h2 => by
              rcases h2 with h2 | h2
              · exact .inl (Nat.lt_of_lt_of_le h2.1 HWO1.out)
              · exact .inr ⟨h2, h1⟩))
            clear hY
            clear hB
            try go_simp
            refine hK.out _ _ ?_ (fun hHeld => ?_)
            · exact HHL.out _ HW0.out
            clear hK K
            refine wpAnyH_ready (rs := [6]) (by kernel_rfl) (by simp) ?_
            refine AllReadyH.cons (o := _) rfl (fun K hK => ?_) ?_
            · clear hHeld
              have s0 := HVX.out.2.1
              have s1 := HVX.out.2.2.1
              have s2 := HVX.out.2.2.2.1
              have t0 := HVX.out.2.2.2.2 0
              have t1 := HVX.out.2.2.2.2 1
              have t2 := HVX.out.2.2.2.2 2
              go_simp
              clear s0 t0 s1 t1 s2 t2
              obtain ⟨W18, hWn⟩ : ∃ xw9, (((W17.setCell ⟨bx, 0, none⟩ (.slice xso X.s.length xsc)).setCell ⟨bx, 1, none⟩ (.slice xio X.l.length xic)).setCell ⟨bx, 2, none⟩ (.int .i64 X.f)) = xw9 := ⟨_, rfl⟩
              rw [hWn]
              have HNE := Lib.hid (show by' ≠ bx by (have := HZ.out; omega))
              replace HVX := Lib.hid (show At3 W18 bx (.slice xso X.s.length xsc) (.slice xio X.l.length xic) (.int .i64 X.f) by rw [← hWn]; exact At3.put3 HVX.out _ _ _)
              replace HVY := Lib.hid (show At3 W18 by' (.slice none 0 0) (.slice none 0 0) (.int .i64 0) by rw [← hWn]; exact (((HVY.out.grown (grown_setCell _ ⟨bx, 0, none⟩ _) (by simpa using HNE.out)).grown (grown_setCell _ ⟨bx, 1, none⟩ _) (by simpa using HNE.out)).grown (grown_setCell _ ⟨bx, 2, none⟩ _) (by simpa using HNE.out)))
              replace HXP := Lib.hid (show IsP W18 (fun b => b < w0.heap.size ∨ (W15.heap.size ≤ b ∧ b < W16.heap.size)) (.agg #[.slice xso X.s.length xsc, .slice xio X.l.length xic, .int .i64 X.f]) X by
                have hno : ¬ (bx < w0.heap.size ∨ (W15.heap.size ≤ bx ∧ bx < W16.heap.size)) := by (have := HZ.out; omega)
                rw [← hWn]; exact HXP.out.keep (((Kept.setCell _ _ _ hno).trans (Kept.setCell _ _ _ hno)).trans (Kept.setCell _ _ _ hno)) (fun _ _ h => h))
              replace HYP := Lib.hid (show IsP W18 (fun b => b < w0.heap.size ∨ (W16.heap.size ≤ b ∧ b < W17.heap.size)) (.agg #[.slice yso Y.s.length ysc, .slice yio Y.l.length yic, .int .i64 Y.f]) Y by
                have hno : ¬ (bx < w0.heap.size ∨ (W16.heap.size ≤ bx ∧ bx < W17.heap.size)) := by (have := HZ.out; omega)
                rw [← hWn]; exact HYP.out.keep (((Kept.setCell _ _ _ hno).trans (Kept.setCell _ _ _ hno)).trans (Kept.setCell _ _ _ hno)) (fun _ _ h => h))
              replace HW0 := Lib.hid (show Below w0.heap.size w0 W18 by rw [← hWn]; exact (((HW0.out.setCell (by show w0.heap.size ≤ bx; exact HG0.out) _).setCell (by show w0.heap.size ≤ bx; exact HG0.out) _).setCell (by show w0.heap.size ≤ bx; exact HG0.out) _))
              clear hWn HNE
              refine hK.out _ _ ?_ (fun hHeld => ?_)
              · exact HHL.out _ HW0.out
              clear hK K
              refine wpAnyH_ready (rs := [7]) (by kernel_rfl) (by simp) ?_
              refine AllReadyH.cons (o := _) rfl (fun K hK => ?_) ?_
              · clear hHeld
                have s0 := HVY.out.2.1
                have s1 := HVY.out.2.2.1
                have s2 := HVY.out.2.2.2.1
                have t0 := HVY.out.2.2.2.2 0
                have t1 := HVY.out.2.2.2.2 1
                have t2 := HVY.out.2.2.2.2 2
                go_simp
                clear s0 t0 s1 t1 s2 t2
                obtain ⟨W19, hWn⟩ : ∃ xw9, (((W18.setCell ⟨by', 0, none⟩ (.slice yso Y.s.length ysc)).setCell ⟨by', 1, none⟩ (.slice yio Y.l.length yic)).setCell ⟨by', 2, none⟩ (.int .i64 Y.f)) = xw9 := ⟨_, rfl⟩
                rw [hWn]
                have HNE := Lib.hid (show bx ≠ by' by (have := HZ.out; omega))
                replace HVY := Lib.hid (show At3 W19 by' (.slice yso Y.s.length ysc) (.slice yio Y.l.length yic) (.int .i64 Y.f) by rw [← hWn]; exact At3.put3 HVY.out _ _ _)
                replace HVX := Lib.hid (show At3 W19 bx (.slice xso X.s.length xsc) (.slice xio X.l.length xic) (.int .i64 X.f) by rw [← hWn]; exact (((HVX.out.grown (grown_setCell _ ⟨by', 0, none⟩ _) (by simpa using HNE.out)).grown (grown_setCell _ ⟨by', 1, none⟩ _) (by simpa using HNE.out)).grown (grown_setCell _ ⟨by', 2, none⟩ _) (by simpa using HNE.out)))
                replace HXP := Lib.hid (show IsP W19 (fun b => b < w0.heap.size ∨ (W15.heap.size ≤ b ∧ b < W16.heap.size)) (.agg #[.slice xso X.s.length xsc, .slice xio X.l.length xic, .int .i64 X.f]) X by
                  have hno : ¬ (by' < w0.heap.size ∨ (W15.heap.size ≤ by' ∧ by' < W16.heap.size)) := by (have := HZ.out; omega)
                  rw [← hWn]; exact HXP.out.keep (((Kept.setCell _ _ _ hno).trans (Kept.setCell _ _ _ hno)).trans (Kept.setCell _ _ _ hno)) (fun _ _ h => h))
                replace HYP := Lib.hid (show IsP W19 (fun b => b < w0.heap.size ∨ (W16.heap.size ≤ b ∧ b < W17.heap.size)) (.agg #[.slice yso Y.s.length ysc, .slice yio Y.l.length yic, .int .i64 Y.f]) Y by
                  have hno : ¬ (by' < w0.heap.size ∨ (W16.heap.size ≤ by' ∧ by' < W17.heap.size)) := by (have := HZ.out; omega)
                  rw [← hWn]; exact HYP.out.keep (((Kept.setCell _ _ _ hno).trans (Kept.setCell _ _ _ hno)).trans (Kept.setCell _ _ _ hno)) (fun _ _ h => h))
                replace HW0 := Lib.hid (show Below w0.heap.size w0 W19 by rw [← hWn]; exact (((HW0.out.setCell (by show w0.heap.size ≤ by'; exact HG1.out) _).setCell (by show w0.heap.size ≤ by'; exact HG1.out) _).setCell (by show w0.heap.size ≤ by'; exact HG1.out) _))
                clear hWn HNE
                refine hK.out _ _ ?_ (fun hHeld => ?_)
                · exact HHL.out _ HW0.out
                clear hK K
                refine wpAnyH_done (by kernel_rfl) ?_ _
                clear hHeld
                exact ⟨rfl, bx, by', xso, xio, yso, yio, xsc, xic, ysc, yic, rfl, HVX.out, HVY.out, HXP.out.wide (fun _ _ _ => trivial), HYP.out.wide (fun _ _ _ => trivial), HW0.out⟩
              exact AllReadyH.nil
            exact AllReadyH.nil
          exact AllReadyH.nil
        exact AllReadyH.nil
      exact AllReadyH.nil
    refine AllReadyH.cons (o := _) rfl (fun K hK => ?_) ?_
    · clear hHeld
      go_simp
      obtain ⟨W14, hWn⟩ : ∃ xw9, W13.alloc (.cells #[.slice none 0 0, .slice none 0 0, .int .i64 0] 25) = xw9 := ⟨_, rfl⟩
      have hB : Below W13.heap.size W13 W14 := by rw [← hWn]; exact below_new _ _
      have hNB : At3 W14 W13.heap.size (.slice none 0 0) (.slice none 0 0) (.int .i64 0) := by rw [← hWn]; exact At3.new _ _ _ _ _
      rw [hWn]
      clear hWn
      obtain ⟨by', hnm⟩ : ∃ x, W13.heap.size = x := ⟨_, rfl⟩
      rw [hnm] at hNB ⊢
      replace HZ := Lib.hid (And.intro HZ.out (And.intro hnm hNB.1))
      replace HW0 := Lib.hid (HW0.out.trans (hB.mono HW0.out.size))
      have HVY := Lib.hid hNB
      clear hNB hB hnm
      have HG1 := Lib.hid (show w0.heap.size ≤ by' by (have := HZ.out; omega))
      replace HZ := Lib.hid (And.intro HZ.out HG1.out)
      refine hK.out _ _ ?_ (fun hHeld => ?_)
      · exact HHL.out _ HW0.out
      clear hK K
      refine wpAnyH_ready (rs := [1, 4]) (by kernel_rfl) (by simp) ?_
      refine AllReadyH.cons (o := _) rfl (fun K hK => ?_) ?_
      · clear hHeld
        go_simp
        have HWO0 := Lib.hid (show w.heap.size ≤ w0.heap.size from HWW.out)
        refine (ptidy_calls 40 _ p _ _ HCP.out (HI.out.grow HW0.out)).mono ?_
        rintro e W15 ⟨ux, rfl, hX, hB⟩
        replace HZ := Lib.hid (And.intro HZ.out hB.size)
        replace HW0 := Lib.hid (HW0.out.trans (hB.mono HW0.out.size))
        replace HVY := Lib.hid (HVY.out.below hB)
        rw [← HXE.out.1] at hX
        obtain ⟨xso, xsc, xio, xic, rfl, _⟩ := hX.opened
        have HXP := Lib.hid (show IsP W15 (fun b => b < w0.heap.size ∨ (W14.heap.size ≤ b ∧ b < W15.heap.size)) (.agg #[.slice xso X.s.length xsc, .slice xio X.l.length xic, .int .i64 X.f]) X from hX.wide (fun b h1 h2 => by
          rcases h2 with h2 | h2
          · exact .inl (Nat.lt_of_lt_of_le h2.1 HWO0.out)
          · exact .inr ⟨h2, h1⟩))
        clear hX
        clear hB
        try go_simp
        refine hK.out _ _ ?_ (fun hHeld => ?_)
        · exact HHL.out _ HW0.out
        clear hK K
        refine wpAnyH_ready (rs := [3, 4]) (by kernel_rfl) (by simp) ?_
        refine AllReadyH.cons (o := _) rfl (fun K hK => ?_) ?_
        · clear hHeld
          go_simp
          have HWO1 := Lib.hid (show w.heap.size ≤ w0.heap.size from HWW.out)
          refine (ptidy_calls 40 _ q _ _ HCQ.out (HI2.out.grow HW0.out)).mono ?_
          rintro e W16 ⟨uy, rfl, hY, hB⟩
          replace HZ := Lib.hid (And.intro HZ.out hB.size)
          replace HW0 := Lib.hid (HW0.out.trans (hB.mono HW0.out.size))
          replace HVY := Lib.hid (HVY.out.below hB)
          replace HXP := Lib.hid (HXP.out.grow hB)
          rw [← HXE.out.2] at hY
          obtain ⟨yso, ysc, yio, yic, rfl, _⟩ := hY.opened
          have HYP := Lib.hid (show IsP W16 (fun b => b < w0.heap.size ∨ (W15.heap.size ≤ b ∧ b < W16.heap.size)) (.agg #[.slice yso Y.s.length ysc, .slice yio Y.l.length yic, .int .i64 Y.f]) Y from hY.wide (fun b h1 h2 => by
            rcases h2 with h2 | h2
            · exact .inl (Nat.lt_of_lt_of_le h2.1 HWO1.out)
            · exact .inr ⟨h2, h1⟩))
          clear hY
          clear hB
          try go_simp
          refine hK.out _ _ ?_ (fun hHeld => ?_)
          · exact HHL.out _ HW0.out
          clear hK K
          refine wpAnyH_ready (rs := [4]) (by kernel_rfl) (by simp) ?_
          refine AllReadyH.cons (o := _) rfl (fun K hK => ?_) ?_
          · clear hHeld
            go_simp
            obtain ⟨W17, hWn⟩ : ∃ xw9, W16.alloc (.cells #[.slice none 0 0, .slice none 0 0, .int .i64 0] 25) = xw9 := ⟨_, rfl⟩
            have hB : Below W16.heap.size W16 W17 := by rw [← hWn]; exact below_new _ _
            have hNB : At3 W17 W16.heap.size (.slice none 0 0) (.slice none 0 0) (.int .i64 0) := by rw [← hWn]; exact At3.new _ _ _ _ _
            rw [hWn]
            clear hWn
            obtain ⟨bx, hnm⟩ : ∃ x, W16.heap.size = x := ⟨_, rfl⟩
            rw [hnm] at hNB ⊢
            replace HZ := Lib.hid (And.intro HZ.out (And.intro hnm hNB.1))
            replace HW0 := Lib.hid (HW0.out.trans (hB.mono HW0.out.size))
            replace HVY := Lib.hid (HVY.out.below hB)
            replace HXP := Lib.hid (HXP.out.grow hB)
            replace HYP := Lib.hid (HYP.out.grow hB)
            have HVX := Lib.hid hNB
            clear hNB hB hnm
            have HG0 := Lib.hid (show w0.heap.size ≤ bx by (have := HZ.out; omega))
            replace HZ := Lib.hid (And.intro HZ.out HG0.out)
            refine hK.out _ _ ?_ (fun hHeld => ?_)
            · exact HHL.out _ HW0.out
            clear hK K
            refine wpAnyH_ready (rs := [6]) (by kernel_rfl) (by simp) ?_
            refine AllReadyH.cons (o := _) rfl (fun K hK => ?_) ?_
            · clear hHeld
              have s0 := HVX.out.2.1
              have s1 := HVX.out.2.2.1
              have s2 := HVX.out.2.2.2.1
              have t0 := HVX.out.2.2.2.2 0
              have t1 := HVX.out.2.2.2.2 1
              have t2 := HVX.out.2.2.2.2 2
              go_simp
              clear s0 t0 s1 t1 s2 t2
              obtain ⟨W18, hWn⟩ : ∃ xw9, (((W17.setCell ⟨bx, 0, none⟩ (.slice xso X.s.length xsc)).setCell ⟨bx, 1, none⟩ (.slice xio X.l.length xic)).setCell ⟨bx, 2, none⟩ (.int .i64 X.f)) = xw9 := ⟨_, rfl⟩
              rw [hWn]
              have HNE := Lib.hid (show by' ≠ bx by (have := HZ.out; omega))
              replace HVX := Lib.hid (show At3 W18 bx (.slice xso X.s.length xsc) (.slice xio X.l.length xic) (.int .i64 X.f) by rw [← hWn]; exact At3.put3 HVX.out _ _ _)
              replace HVY := Lib.hid (show At3 W18 by' (.slice none 0 0) (.slice none 0 0) (.int .i64 0) by rw [← hWn]; exact (((HVY.out.grown (grown_setCell _ ⟨bx, 0, none⟩ _) (by simpa using HNE.out)).grown (grown_setCell _ ⟨bx, 1, none⟩ _) (by simpa using HNE.out)).grown (grown_setCell _ ⟨bx, 2, none⟩ _) (by simpa using HNE.out)))
              replace HXP := Lib.hid (show IsP W18 (fun b => b < w0.heap.size ∨ (W14.heap.size ≤ b ∧ b < W15.heap.size)) (.agg #[.slice xso X.s.length xsc, .slice xio X.l.length xic, .int .i64 X.f]) X by
                have hno : ¬ (bx < w0.heap.size ∨ (W14.heap.size ≤ bx ∧ bx < W15.heap.size)) := by (have := HZ.out; omega)
                rw [← hWn]; exact HXP.out.keep (((Kept.setCell _ _ _ hno).trans (Kept.setCell _ _ _ hno)).trans (Kept.setCell _ _ _ hno)) (fun _ _ h => h))
              replace HYP := Lib.hid (show IsP W18 (fun b => b < w0.heap.size ∨ (W15.heap.size ≤ b ∧ b < W16.heap.size)) (.agg #[.slice yso Y.s.length ysc, .slice yio Y.l.length yic, .int .i64 Y.f]) Y by
                have hno : ¬ (bx < w0.heap.size ∨ (W15.heap.size ≤ bx ∧ bx < W16.heap.size)) := by (have := HZ.out; omega)
                rw [← hWn]; exact HYP.out.keep (((Kept.setCell _ _ _ hno).trans (Kept.setCell _ _ _ hno)).trans (Kept.setCell _ _ _ hno)) (fun _ _ h => h))
              replace HW0 := Lib.hid (show Below w0.heap.size w0 W18 by rw [← hWn]; exact (((HW0.out.setCell (by show w0.heap.size ≤ bx; exact HG0.out) _).setCell (by show w0.heap.size ≤ bx; exact HG0.out) _).setCell (by show w0.heap.size ≤ bx; exact HG0.out) _))
              clear hWn HNE
              refine hK.out _ _ ?_ (fun hHeld => ?_)
              · exact HHL.out _ HW0.out
              clear hK K
              refine wpAnyH_ready (rs := [7]) (by kernel_rfl) (by simp) ?_
              refine AllReadyH.cons (o := _) rfl (fun K hK => ?_) ?_
              · clear hHeld
                have s0 := HVY.out.2.1
                have s1 := HVY.out.2.2.1
                have s2 := HVY.out.2.2.2.1
                have t0 := HVY.out.2.2.2.2 0
                have t1 := HVY.out.2.2.2.2 1
                have t2 := HVY.out.2.2.2.2 2
                go_simp
                clear s0 t0 s1 t1 s2 t2
                obtain ⟨W19, hWn⟩ : ∃ xw9, (((W18.setCell ⟨by', 0, none⟩ (.slice yso Y.s.length ysc)).setCell ⟨by', 1, none⟩ (.slice yio Y.l.length yic)).setCell ⟨by', 2, none⟩ (.int .i64 Y.f)) = xw9 := ⟨_, rfl⟩
                rw [hWn]
                have HNE := Lib.hid (show bx ≠ by' by (have := HZ.out; omega))
                replace HVY := Lib.hid (show At3 W19 by' (.slice yso Y.s.length ysc) (.slice yio Y.l.length yic) (.int .i64 Y.f) by rw [← hWn]; exact At3.put3 HVY.out _ _ _)
                replace HVX := Lib.hid (show At3 W19 bx (.slice xso X.s.length xsc) (.slice xio X.l.length xic) (.int .i64 X.f) by rw [← hWn]; exact (((HVX.out.grown (grown_setCell _ ⟨by', 0, none⟩ _) (by simpa using HNE.out)).grown (grown_setCell _ ⟨by', 1, none⟩ _) (by simpa using HNE.out)).grown (grown_setCell _ ⟨by', 2, none⟩ _) (by simpa using HNE.out)))
                replace HXP := Lib.hid (show IsP W19 (fun b => b < w0.heap.size ∨ (W14.heap.size ≤ b ∧ b < W15.heap.size)) (.agg #[.slice xso X.s.length xsc, .slice xio X.l.length xic, .int .i64 X.f]) X by
                  have hno : ¬ (by' < w0.heap.size ∨ (W14.heap.size ≤ by' ∧ by' < W15.heap.size)) := by (have := HZ.out; omega)
                  rw [← hWn]; exact HXP.out.keep (((Kept.setCell _ _ _ hno).trans (Kept.setCell _ _ _ hno)).trans (Kept.setCell _ _ _ hno)) (fun _ _ h => h))
                replace HYP := Lib.hid (show IsP W19 (fun b => b < w0.heap.size ∨ (W15.heap.size ≤ b ∧ b < W16.heap.size)) (.agg #[.slice yso Y.s.length ysc, .slice yio Y.l.length yic, .int .i64 Y.f]) Y by
                  have hno : ¬ (by' < w0.heap.size ∨ (W15.heap.size ≤ by' ∧ by' < W16.heap.size)) := by (have := HZ.out; omega)
                  rw [← hWn]; exact HYP.out.keep (((Kept.setCell _ _ _ hno).trans (Kept.setCell _ _ _ hno)).trans (Kept.setCell _ _ _ hno)) (fun _ _ h => h))
                replace HW0 := Lib.hid (show Below w0.heap.size w0 W19 by rw [← hWn]; exact (((HW0.out.setCell (by show w0.heap.size ≤ by'; exact HG1.out) _).setCell (by show w0.heap.size ≤ by'; exact HG1.out) _).setCell (by show w0.heap.size ≤ by'; exact HG1.out) _))
                clear hWn HNE
                refine hK.out _ _ ?_ (fun hHeld => ?_)
                · exact HHL.out _ HW0.out
                clear hK K
                refine wpAnyH_done (by kernel_rfl) ?_ _
                clear hHeld
                exact ⟨rfl, bx, by', xso, xio, yso, yio, xsc, xic, ysc, yic, rfl, HVX.out, HVY.out, HXP.out.wide (fun _ _ _ => trivial), HYP.out.wide (fun _ _ _ => trivial), HW0.out⟩
              exact AllReadyH.nil
            exact AllReadyH.nil
          exact AllReadyH.nil
        refine AllReadyH.cons (o := _) rfl (fun K hK => ?_) ?_
        · clear hHeld
          go_simp
          obtain ⟨W16, hWn⟩ : ∃ xw9, W15.alloc (.cells #[.slice none 0 0, .slice none 0 0, .int .i64 0] 25) = xw9 := ⟨_, rfl⟩
          have hB : Below W15.heap.size W15 W16 := by rw [← hWn]; exact below_new _ _
          have hNB : At3 W16 W15.heap.size (.slice none 0 0) (.slice none 0 0) (.int .i64 0) := by rw [← hWn]; exact At3.new _ _ _ _ _
          rw [hWn]
          clear hWn
          obtain ⟨bx, hnm⟩ : ∃ x, W15.heap.size = x := ⟨_, rfl⟩
          rw [hnm] at hNB ⊢
          replace HZ := Lib.hid (And.intro HZ.out (And.intro hnm hNB.1))
          replace HW0 := Lib.hid (HW0.out.trans (hB.mono HW0.out.size))
          replace HVY := Lib.hid (HVY.out.below hB)
          replace HXP := Lib.hid (HXP.out.grow hB)
          have HVX := Lib.hid hNB
          clear hNB hB hnm
          have HG0 := Lib.hid (show w0.heap.size ≤ bx by (have := HZ.out; omega))
          replace HZ := Lib.hid (And.intro HZ.out HG0.out)
          refine hK.out _ _ ?_ (fun hHeld => ?_)
          · exact HHL.out _ HW0.out
          clear hK K
          refine wpAnyH_ready (rs := [3]) (by kernel_rfl) (by simp) ?_
          refine AllReadyH.cons (o := _) rfl (fun K hK => ?_) ?_
          · clear hHeld
            go_simp
            have HWO1 := Lib.hid (show w.heap.size ≤ w0.heap.size from HWW.out)
            refine (ptidy_calls 40 _ q _ _ HCQ.out (HI2.out.grow HW0.out)).mono ?_
            rintro e W17 ⟨uy, rfl, hY, hB⟩
            replace HZ := Lib.hid (And.intro HZ.out hB.size)
            replace HW0 := Lib.hid (HW0.out.trans (hB.mono HW0.out.size))
            replace HVY := Lib.hid (HVY.out.below hB)
            replace HXP := Lib.hid (HXP.out.grow hB)
            replace HVX := Lib.hid (HVX.out.below hB)
            rw [← HXE.out.2] at hY
            obtain ⟨yso, ysc, yio, yic, rfl, _⟩ := hY.opened
            have HYP := Lib.hid (show IsP W17 (fun b => b < w0.heap.size ∨ (W16.heap.size ≤ b ∧ b < W17.heap.size)) (.agg #[.slice yso Y.s.length ysc, .slice yio Y.l.length yic, .int .i64 Y.f]) Y from hY.wide (fun b h1 h2 => by
              rcases h2 with h2 | h2
              · exact .inl (Nat.lt_of_lt_of_le h2.1 HWO1.out)
              · exact .inr ⟨h2, h1⟩))
            clear hY
            clear hB
            try go_simp
            refine hK.out _ _ ?_ (fun hHeld => ?_)
            · exact HHL.out _ HW0.out
            clear hK K
            refine wpAnyH_ready (rs := [6]) (by kernel_rfl) (by simp) ?_
            refine AllReadyH.cons (o := _) rfl (fun K hK => ?_) ?_
            · clear hHeld
              have s0 := HVX.out.2.1
              have s1 := HVX.out.2.2.1
              have s2 := HVX.out.2.2.2.1
              have t0 := HVX.out.2.2.2.2 0
              have t1 := HVX.out.2.2.2.2 1
              have t2 := HVX.out.2.2.2.2 2
              go_simp
              clear s0 t0 s1 t1 s2 t2
              obtain ⟨W18, hWn⟩ : ∃ xw9, (((W17.setCell ⟨bx, 0, none⟩ (.slice xso X.s.length xsc)).setCell ⟨bx, 1, none⟩ (.slice xio X.l.length xic)).setCell ⟨bx, 2, none⟩ (.int .i64 X.f)) = xw9 := ⟨_, rfl⟩
              rw [hWn]
              have HNE := Lib.hid (show by' ≠ bx by (have := HZ.out; omega))
              replace HVX := Lib.hid (show At3 W18 bx (.slice xso X.s.length xsc) (.slice xio X.l.length xic) (.int .i64 X.f) by rw [← hWn]; exact At3.put3 HVX.out _ _ _)
              replace HVY := Lib.hid (show At3 W18 by' (.slice none 0 0) (.slice none 0 0) (.int .i64 0) by rw [← hWn]; exact (((HVY.out.grown (grown_setCell _ ⟨bx, 0, none⟩ _) (by simpa using HNE.out)).grown (grown_setCell _ ⟨bx, 1, none⟩ _) (by simpa using HNE.out)).grown (grown_setCell _ ⟨bx, 2, none⟩ _) (by simpa using HNE.out)))
              replace HXP := Lib.hid (show IsP W18 (fun b => b < w0.heap.size ∨ (W14.heap.size ≤ b ∧ b < W15.heap.size)) (.agg #[.slice xso X.s.length xsc, .slice xio X.l.length xic, .int .i64 X.f]) X by
                have hno : ¬ (bx < w0.heap.size ∨ (W14.heap.size ≤ bx ∧ bx < W15.heap.size)) := by (have := HZ.out; omega)
                rw [← hWn]; exact HXP.out.keep (((Kept.setCell _ _ _ hno).trans (Kept.setCell _ _ _ hno)).trans (Kept.setCell _ _ _ hno)) (fun _ _ h => h))
              replace HYP := Lib.hid (show IsP W18 (fun b => b < w0.heap.size ∨ (W16.heap.size ≤ b ∧ b < W17.heap.size)) (.agg #[.slice yso Y.s.length ysc, .slice yio Y.l.length yic, .int .i64 Y.f]) Y by
                have hno : ¬ (bx < w0.heap.size ∨ (W16.heap.size ≤ bx ∧ bx < W17.heap.size)) := by (have := HZ.out; omega)
                rw [← hWn]; exact HYP.out.keep (((Kept.setCell _ _ _ hno).trans (Kept.setCell _ _ _ hno)).trans (Kept.setCell _ _ _ hno)) (fun _ _ h => h))
              replace HW0 := Lib.hid (show Below w0.heap.size w0 W18 by rw [← hWn]; exact (((HW0.out.setCell (by show w0.heap.size ≤ bx; exact HG0.out) _).setCell (by show w0.heap.size ≤ bx; exact HG0.out) _).setCell (by show w0.heap.size ≤ bx; exact HG0.out) _))
              clear hWn HNE
              refine hK.out _ _ ?_ (fun hHeld => ?_)
              · exact HHL.out _ HW0.out
              clear hK K
              refine wpAnyH_ready (rs := [7]) (by kernel_rfl) (by simp) ?_
              refine AllReadyH.cons (o := _) rfl (fun K hK => ?_) ?_
              · clear hHeld
                have s0 := HVY.out.2.1
                have s1 := HVY.out.2.2.1
                have s2 := HVY.out.2.2.2.1
                have t0 := HVY.out.2.2.2.2 0
                have t1 := HVY.out.2.2.2.2 1
                have t2 := HVY.out.2.2.2.2 2
                go_simp
                clear s0 t0 s1 t1 s2 t2
                obtain ⟨W19, hWn⟩ : ∃ xw9, (((W18.setCell ⟨by', 0, none⟩ (.slice yso Y.s.length ysc)).setCell ⟨by', 1, none⟩ (.slice yio Y.l.length yic)).setCell ⟨by', 2, none⟩ (.int .i64 Y.f)) = xw9 := ⟨_, rfl⟩
                rw [hWn]
                have HNE := Lib.hid (show bx ≠ by' by (have := HZ.out; omega))
                replace HVY := Lib.hid (show At3 W19 by' (.slice yso Y.s.length ysc) (.slice yio Y.l.length yic) (.int .i64 Y.f) by rw [← hWn]; exact At3.put3 HVY.out _ _ _)
                replace HVX := Lib.hid (show At3 W19 bx (.slice xso X.s.length xsc) (.slice xio X.l.length xic) (.int .i64 X.f) by rw [← hWn]; exact (((HVX.out.grown (grown_setCell _ ⟨by', 0, none⟩ _) (by simpa using HNE.out)).grown (grown_setCell _ ⟨by', 1, none⟩ _) (by simpa using HNE.out)).grown (grown_setCell _ ⟨by', 2, none⟩ _) (by simpa using HNE.out)))
                replace HXP := Lib.hid (show IsP W19 (fun b => b < w0.heap.size ∨ (W14.heap.size ≤ b ∧ b < W15.heap.size)) (.agg #[.slice xso X.s.length xsc, .slice xio X.l.length xic, .int .i64 X.f]) X by
                  have hno : ¬ (by' < w0.heap.size ∨ (W14.heap.size ≤ by' ∧ by' < W15.heap.size)) := by (have := HZ.out; omega)
                  rw [← hWn]; exact HXP.out.keep (((Kept.setCell _ _ _ hno).trans (Kept.setCell _ _ _ hno)).trans (Kept.setCell _ _ _ hno)) (fun _ _ h => h))
                replace HYP := Lib.hid (show IsP W19 (fun b => b < w0.heap.size ∨ (W16.heap.size ≤ b ∧ b < W17.heap.size)) (.agg #[.slice yso Y.s.length ysc, .slice yio Y.l.length yic, .int .i64 Y.f]) Y by
                  have hno : ¬ (by' < w0.heap.size ∨ (W16.heap.size ≤ by' ∧ by' < W17.heap.size)) := by (have := HZ.out; omega)
                  rw [← hWn]; exact HYP.out.keep (((Kept.setCell _ _ _ hno).trans (Kept.setCell _ _ _ hno)).trans (Kept.setCell _ _ _ hno)) (fun _ _ h => h))
                replace HW0 := Lib.hid (show Below w0.heap.size w0 W19 by rw [← hWn]; exact (((HW0.out.setCell (by show w0.heap.size ≤ by'; exact HG1.out) _).setCell (by show w0.heap.size ≤ by'; exact HG1.out) _).setCell (by show w0.heap.size ≤ by'; exact HG1.out) _))
                clear hWn HNE
                refine hK.out _ _ ?_ (fun hHeld => ?_)
                · exact HHL.out _ HW0.out
                clear hK K
                refine wpAnyH_done (by kernel_rfl) ?_ _
                clear hHeld
                exact ⟨rfl, bx, by', xso, xio, yso, yio, xsc, xic, ysc, yic, rfl, HVX.out, HVY.out, HXP.out.wide (fun _ _ _ => trivial), HYP.out.wide (fun _ _ _ => trivial), HW0.out⟩
              exact AllReadyH.nil
            exact AllReadyH.nil
          exact AllReadyH.nil
        exact AllReadyH.nil
      refine AllReadyH.cons (o := _) rfl (fun K hK => ?_) ?_
      · clear hHeld
        go_simp
        obtain ⟨W15, hWn⟩ : ∃ xw9, W14.alloc (.cells #[.slice none 0 0, .slice none 0 0, .int .i64 0] 25) = xw9 := ⟨_, rfl⟩
        have hB : Below W14.heap.size W14 W15 := by rw [← hWn]; exact below_new _ _
        have hNB : At3 W15 W14.heap.size (.slice none 0 0) (.slice none 0 0) (.int .i64 0) := by rw [← hWn]; exact At3.new _ _ _ _ _
        rw [hWn]
        clear hWn
        obtain ⟨bx, hnm⟩ : ∃ x, W14.heap.size = x := ⟨_, rfl⟩
        rw [hnm] at hNB ⊢
        replace HZ := Lib.hid (And.intro HZ.out (And.intro hnm hNB.1))
        replace HW0 := Lib.hid (HW0.out.trans (hB.mono HW0.out.size))
        replace HVY := Lib.hid (HVY.out.below hB)
        have HVX := Lib.hid hNB
        clear hNB hB hnm
        have HG0 := Lib.hid (show w0.heap.size ≤ bx by (have := HZ.out; omega))
        replace HZ := Lib.hid (And.intro HZ.out HG0.out)
        refine hK.out _ _ ?_ (fun hHeld => ?_)
        · exact HHL.out _ HW0.out
        clear hK K
        refine wpAnyH_ready (rs := [1]) (by kernel_rfl) (by simp) ?_
        refine AllReadyH.cons (o := _) rfl (fun K hK => ?_) ?_
        · clear hHeld
          go_simp
          have HWO0 := Lib.hid (show w.heap.size ≤ w0.heap.size from HWW.out)
          refine (ptidy_calls 40 _ p _ _ HCP.out (HI.out.grow HW0.out)).mono ?_
          rintro e W16 ⟨ux, rfl, hX, hB⟩
          replace HZ := Lib.hid (And.intro HZ.out hB.size)
          replace HW0 := Lib.hid (HW0.out.trans (hB.mono HW0.out.size))
          replace HVY := Lib.hid (HVY.out.below hB)
          replace HVX := Lib.hid (HVX.out.below hB)
          rw [← HXE.out.1] at hX
          obtain ⟨xso, xsc, xio, xic, rfl, _⟩ := hX.opened
          have HXP := Lib.hid (show IsP W16 (fun b => b < w0.heap.size ∨ (W15.heap.size ≤ b ∧ b < W16.heap.size)) (.agg #[.slice xso X.s.length xsc, .slice xio X.l.length xic, .int .i64 X.f]) X from hX.wide (fun b h1 h2 => by
            rcases h2 with h2 | h2
            · exact .inl (Nat.lt_of_lt_of_le h2.1 HWO0.out)
            · exact .inr ⟨h2, h1⟩))
          clear hX
          clear hB
          try go_simp
          refine hK.out _ _ ?_ (fun hHeld => ?_)
          · exact HHL.out _ HW0.out
          clear hK K
          refine wpAnyH_ready (rs := [3]) (by kernel_rfl) (by simp) ?_
          refine AllReadyH.cons (o := _) rfl (fun K hK => ?_) ?_
          · clear hHeld
            go_simp
            have HWO1 := Lib.hid (show w.heap.size ≤ w0.heap.size from HWW.out)
            refine (ptidy_calls 40 _ q _ _ HCQ.out (HI2.out.grow HW0.out)).mono ?_
            rintro e W17 ⟨uy, rfl, hY, hB⟩
            replace HZ := Lib.hid (And.intro HZ.out hB.size)
            replace HW0 := Lib.hid (HW0.out.trans (hB.mono HW0.out.size))
            replace HVY := Lib.hid (HVY.out.below hB)
            replace HVX := Lib.hid (HVX.out.below hB)
            replace HXP := Lib.hid (HXP.out.grow hB)
            rw [← HXE.out.2] at hY
            obtain ⟨yso, ysc, yio, yic, rfl, _⟩ := hY.opened
            have HYP := Lib.hid (show IsP W17 (fun b => b < w0.heap.size ∨ (W16.heap.size ≤ b ∧ b < W17.heap.size)) (.agg #[.slice yso Y.s.length ysc, .slice yio Y.l.length yic, .int .i64 Y.f]) Y from hY.wide (fun b h1 h2 => by
              rcases h2 with h2 | h2
              · exact .inl (Nat.lt_of_lt_of_le h2.1 HWO1.out)
              · exact .inr ⟨h2, h1⟩))
            clear hY
            clear hB
            try go_simp
            refine hK.out _ _ ?_ (fun hHeld => ?_)
            · exact HHL.out _ HW0.out
            clear hK K
            refine wpAnyH_ready (rs := [6]) (by kernel_rfl) (by simp) ?_
            refine AllReadyH.cons (o := _) rfl (fun K hK => ?_) ?_
            · clear hHeld
              have s0 := HVX.out.2.1
              have s1 := HVX.out.2.2.1
              have s2 := HVX.out.2.2.2.1
              have t0 := HVX.out.2.2.2.2 0
              have t1 := HVX.out.2.2.2.2 1
              have t2 := HVX.out.2.2.2.2 2
              go_simp
              clear s0 t0 s1 t1 s2 t2
              obtain ⟨W18, hWn⟩ : ∃ xw9, (((W17.setCell ⟨bx, 0, none⟩ (.slice xso X.s.length xsc)).setCell ⟨bx, 1, none⟩ (.slice xio X.l.length xic)).setCell ⟨bx, 2, none⟩ (.int .i64 X.f)) = xw9 := ⟨_, rfl⟩
              rw [hWn]
              have HNE := Lib.hid (show by' ≠ bx by (have := HZ.out; omega))
              replace HVX := Lib.hid (show At3 W18 bx (.slice xso X.s.length xsc) (.slice xio X.l.length xic) (.int .i64 X.f) by rw [← hWn]; exact At3.put3 HVX.out _ _ _)
              replace HVY := Lib.hid (show At3 W18 by' (.slice none 0 0) (.slice none 0 0) (.int .i64 0) by rw [← hWn]; exact (((HVY.out.grown (grown_setCell _ ⟨bx, 0, none⟩ _) (by simpa using HNE.out)).grown (grown_setCell _ ⟨bx, 1, none⟩ _) (by simpa using HNE.out)).grown (grown_setCell _ ⟨bx, 2, none⟩ _) (by simpa using HNE.out)))
              replace HXP := Lib.hid (show IsP W18 (fun b => b < w0.heap.size ∨ (W15.heap.size ≤ b ∧ b < W16.heap.size)) (.agg #[.slice xso X.s.length xsc, .slice xio X.l.length xic, .int .i64 X.f]) X by
                have hno : ¬ (bx < w0.heap.size ∨ (W15.heap.size ≤ bx ∧ bx < W16.heap.size)) := by (have := HZ.out; omega)
                rw [← hWn]; exact HXP.out.keep (((Kept.setCell _ _ _ hno).trans (Kept.setCell _ _ _ hno)).trans (Kept.setCell _ _ _ hno)) (fun _ _ h => h))
              replace HYP := Lib.hid (show IsP W18 (fun b => b < w0.heap.size ∨ (W16.heap.size ≤ b ∧ b < W17.heap.size)) (.agg #[.slice yso Y.s.length ysc, .slice yio Y.l.length yic, .int .i64 Y.f]) Y by
                have hno : ¬ (bx < w0.heap.size ∨ (W16.heap.size ≤ bx ∧ bx < W17.heap.size)) := by (have := HZ.out; omega)
                rw [← hWn]; exact HYP.out.keep (((Kept.setCell _ _ _ hno).trans (Kept.setCell _ _ _ hno)).trans (Kept.setCell _ _ _ hno)) (fun _ _ h => h))
              replace HW0 := Lib.hid (show Below w0.heap.size w0 W18 by rw [← hWn]; exact (((HW0.out.setCell (by show w0.heap.size ≤ bx; exact HG0.out) _).setCell (by show w0.heap.size ≤ bx; exact HG0.out) _).setCell (by show w0.heap.size ≤ bx; exact HG0.out) _))
              clear hWn HNE
              refine hK.out _ _ ?_ (fun hHeld => ?_)
              · exact HHL.out _ HW0.out
              clear hK K
              refine wpAnyH_ready (rs := [7]) (by kernel_rfl) (by simp) ?_
              refine AllReadyH.cons (o := _) rfl (fun K hK => ?_) ?_
              · clear hHeld
                have s0 := HVY.out.2.1
                have s1 := HVY.out.2.2.1
                have s2 := HVY.out.2.2.2.1
                have t0 := HVY.out.2.2.2.2 0
                have t1 := HVY.out.2.2.2.2 1
                have t2 := HVY.out.2.2.2.2 2
                go_simp
                clear s0 t0 s1 t1 s2 t2
                obtain ⟨W19, hWn⟩ : ∃ xw9, (((W18.setCell ⟨by', 0, none⟩ (.slice yso Y.s.length ysc)).setCell ⟨by', 1, none⟩ (.slice yio Y.l.length yic)).setCell ⟨by', 2, none⟩ (.int .i64 Y.f)) = xw9 := ⟨_, rfl⟩
                rw [hWn]
                have HNE := Lib.hid (show bx ≠ by' by (have := HZ.out; omega))
                replace HVY := Lib.hid (show At3 W19 by' (.slice yso Y.s.length ysc) (.slice yio Y.l.length yic) (.int .i64 Y.f) by rw [← hWn]; exact At3.put3 HVY.out _ _ _)
                replace HVX := Lib.hid (show At3 W19 bx (.slice xso X.s.length xsc) (.slice xio X.l.length xic) (.int .i64 X.f) by rw [← hWn]; exact (((HVX.out.grown (grown_setCell _ ⟨by', 0, none⟩ _) (by simpa using HNE.out)).grown (grown_setCell _ ⟨by', 1, none⟩ _) (by simpa using HNE.out)).grown (grown_setCell _ ⟨by', 2, none⟩ _) (by simpa using HNE.out)))
                replace HXP := Lib.hid (show IsP W19 (fun b => b < w0.heap.size ∨ (W15.heap.size ≤ b ∧ b < W16.heap.size)) (.agg #[.slice xso X.s.length xsc, .slice xio X.l.length xic, .int .i64 X.f]) X by
                  have hno : ¬ (by' < w0.heap.size ∨ (W15.heap.size ≤ by' ∧ by' < W16.heap.size)) := by (have := HZ.out; omega)
                  rw [← hWn]; exact HXP.out.keep (((Kept.setCell _ _ _ hno).trans (Kept.setCell _ _ _ hno)).trans (Kept.setCell _ _ _ hno)) (fun _ _ h => h))
                replace HYP := Lib.hid (show IsP W19 (fun b => b < w0.heap.size ∨ (W16.heap.size ≤ b ∧ b < W17.heap.size)) (.agg #[.slice yso Y.s.length ysc, .slice yio Y.l.length yic, .int .i64 Y.f]) Y by
                  have hno : ¬ (by' < w0.heap.size ∨ (W16.heap.size ≤ by' ∧ by' < W17.heap.size)) := by (have := HZ.out; omega)
                  rw [← hWn]; exact HYP.out.keep (((Kept.setCell _ _ _ hno).trans (Kept.setCell _ _ _ hno)).trans (Kept.setCell _ _ _ hno)) (fun _ _ h => h))
                replace HW0 := Lib.hid (show Below w0.heap.size w0 W19 by rw [← hWn]; exact (((HW0.out.setCell (by show w0.heap.size ≤ by'; exact HG1.out) _).setCell (by show w0.heap.size ≤ by'; exact HG1.out) _).setCell (by show w0.heap.size ≤ by'; exact HG1.out) _))
                clear hWn HNE
                refine hK.out _ _ ?_ (fun hHeld => ?_)
                · exact HHL.out _ HW0.out
                clear hK K
                refine wpAnyH_done (by kernel_rfl) ?_ _
                clear hHeld
                exact ⟨rfl, bx, by', xso, xio, yso, yio, xsc, xic, ysc, yic, rfl, HVX.out, HVY.out, HXP.out.wide (fun _ _ _ => trivial), HYP.out.wide (fun _ _ _ => trivial), HW0.out⟩
              exact AllReadyH.nil
            exact AllReadyH.nil
          exact AllReadyH.nil
        exact AllReadyH.nil
      exact AllReadyH.nil
    exact AllReadyH.nil
  rintro a' v2 ⟨bx, by', xso, xio, yso, yio, xsc, xic, ysc, yic, rfl, hVX, hVY, hXP, hYP, hB⟩
  replace HA := Lib.hid (HA.out.below hB)
  replace HA2 := Lib.hid (HA2.out.below hB)
  replace HB := Lib.hid (HB.out.trans (hB.mono HB.out.size))
  replace HI := Lib.hid (HI.out.grow hB)
  replace HI2 := Lib.hid (HI2.out.grow hB)
  replace HT := Lib.hid (fun j hj => keep_below hB _ _ (HT.out j hj))
  have HVX := Lib.hid hVX
  have HVY := Lib.hid hVY
  have HXP := Lib.hid hXP
  have HYP := Lib.hid hYP
  clear hVX hVY hXP hYP hB
  simp only [Act.put, List.setIfInBounds_toArray, List.set_cons_zero, List.set_cons_succ]
  have HGA := Lib.hid (show gV 39 A by rw [HAE.out.1]; exact gA_gV (d := 39) (arrP_good 40 p HCP.out))
  have HGB := Lib.hid (show gV 39 B by rw [HAE.out.2]; exact gA_gV (d := 39) (arrP_good 40 q HCQ.out))
  have HTL := Lib.hid (show X.l = itsA 39 A ∧ Y.l = itsA 39 B by rw [HAE.out.1, HAE.out.2, HXE.out.1, HXE.out.2]; exact ⟨(its_arrP (d := 39) HCP.out).symm, (its_arrP (d := 39) HCQ.out).symm⟩)
  have HFL := Lib.hid (show X.f = A.cls ∧ Y.f = B.cls by rw [HAE.out.1, HAE.out.2, HXE.out.1, HXE.out.2]; exact ⟨(arrP_len (d := 40) HCP.out).2.1.symm, (arrP_len (d := 40) HCQ.out).2.1.symm⟩)
  have cHA0 := HA.out.2.1
  have cHA1 := HA.out.2.2.1
  have cHA2 := HA.out.2.2.2.1
  have cHA20 := HA2.out.2.1
  have cHA21 := HA2.out.2.2.1
  have cHA22 := HA2.out.2.2.2.1
  have cHVX0 := HVX.out.2.1
  have cHVX1 := HVX.out.2.2.1
  have cHVX2 := HVX.out.2.2.2.1
  have cHVY0 := HVY.out.2.1
  have cHVY1 := HVY.out.2.2.1
  have cHVY2 := HVY.out.2.2.2.1
  go_wp2_with fail
  clear cHA0 cHA1 cHA2 cHA20 cHA21 cHA22 cHVX0 cHVX1 cHVX2 cHVY0 cHVY1 cHVY2
  refine wp_mid (fun a a' w' => ∃ (soA soB : Option Addr) (scA scB bv : Nat) (uA uB uv : Value), a' = (((((((((((((a.put (some 29) (.int .i64 f)).put (some 30) (.agg #[.slice so p.s.length sc, .slice io p.l.length ic, .int .i64 p.f])).put (some 31) (.agg #[.slice soA (arrP 40 p).1.length scA, uA])).put (some 32) (.agg #[uA])).put (some 33) (.agg #[.slice so2 q.s.length sc2, .slice io2 q.l.length ic2, .int .i64 q.f])).put (some 34) (.agg #[.slice soB (arrP 40 q).1.length scB, uB])).put (some 35) (.agg #[uB])).put (some 36) (.tuple #[.agg #[uv], .int .i64 (reE f A B)])).put (some 28) (.tuple #[.agg #[uv], .int .i64 (reE f A B)])).put (some 37) (.agg #[uv])).put (some 38) (.int .i64 (reE f A B))).put (some 9) (.pointer (some ⟨bv, 0, none⟩))).put (some 10) (.int .i64 (reE f A B))) ∧ IsV w' (fun _ => True) uv (reV f A B) ∧ At1 w' bv uv ∧ Below v2.heap.size v2 w') ?_ ?_
  · have HW0 := Lib.hid (Below.refl v2.heap.size v2)
    have HWX := Lib.hid (And.intro HA.out.1 HA2.out.1)
    have hfl := field_arr11
    obtain ⟨W18, hWD⟩ : ∃ xw9, v2.drew = xw9 := ⟨_, rfl⟩
    have hB : Below v2.heap.size v2 W18 := by rw [← hWD]; exact Below.drewN' (Below.refl _ _) 1
    replace HA := Lib.hid (HA.out.below hB)
    replace HA2 := Lib.hid (HA2.out.below hB)
    replace HI := Lib.hid (HI.out.grow hB)
    replace HI2 := Lib.hid (HI2.out.grow hB)
    replace HT := Lib.hid (fun j hj => keep_below hB _ _ (HT.out j hj))
    replace HW0 := Lib.hid (HW0.out.trans (hB.mono HW0.out.size))
    clear hB
    refine wp_region_held_drew (S := fun w' => w'.cell? ⟨w.heap.size, 0, none⟩ = some (.slice so p.s.length sc) ∧ w'.cell? ⟨w.heap.size, 1, none⟩ = some (.slice io p.l.length ic) ∧ w'.cell? ⟨w.heap.size, 2, none⟩ = some (.int .i64 p.f) ∧ w'.cell? ⟨w.heap.size + 1, 0, none⟩ = some (.slice so2 q.s.length sc2) ∧ w'.cell? ⟨w.heap.size + 1, 1, none⟩ = some (.slice io2 q.l.length ic2) ∧ w'.cell? ⟨w.heap.size + 1, 2, none⟩ = some (.int .i64 q.f)) (by kernel_rfl) (by rw [hWD]; exact ⟨HA.out.2.1, HA.out.2.2.1, HA.out.2.2.2.1, HA2.out.2.1, HA2.out.2.2.1, HA2.out.2.2.2.1⟩) (fun hHeld => ?_)
    rw [hWD] at hHeld ⊢
    clear hWD
    refine wpAnyH_take (i := 0) (v := ?_) rfl (by kernel_rfl) (by kernel_rfl) (by kernel_rfl) (fun _ _ _ h => absurd h.1 (by simp)) (Or.inl ⟨by rfl, ?_⟩) (by assumption) ?_
    rotate_left
    · (intro w hSw; (try dsimp only at hSw); go_simp; try with_reducible rfl)
    simp only [Act.put, List.getElem_toArray, List.getElem_cons_zero, List.setIfInBounds_toArray, List.set_cons_zero, List.set_cons_succ]
    refine wpAnyH_take (i := 1) (v := ?_) rfl (by kernel_rfl) (by kernel_rfl) (by kernel_rfl) (fun _ _ _ h => absurd h.1 (by simp)) (Or.inl ⟨by rfl, ?_⟩) (by assumption) ?_
    rotate_left
    · (intro w hSw; (try dsimp only at hSw); go_simp; try with_reducible rfl)
    simp only [Act.put, List.getElem_toArray, List.getElem_cons_succ, List.getElem_cons_zero, List.setIfInBounds_toArray, List.set_cons_zero, List.set_cons_succ]
    refine wpAnyH_take (i := 4) (v := ?_) rfl (by kernel_rfl) (by kernel_rfl) (by kernel_rfl) (fun _ _ _ h => absurd h.1 (by simp)) (Or.inl ⟨by rfl, ?_⟩) (by assumption) ?_
    rotate_left
    · (intro w hSw; (try dsimp only at hSw); go_simp; try with_reducible rfl)
    simp only [Act.put, List.getElem_toArray, List.getElem_cons_succ, List.getElem_cons_zero, List.setIfInBounds_toArray, List.set_cons_zero, List.set_cons_succ]
    refine wpAnyH_ready (rs := [2, 11]) (by kernel_rfl) (by simp) ?_
    refine AllReadyH.cons (o := _) rfl (fun K hK => ?_) ?_
    · clear hHeld
      go_simp
      refine (lof_calls _ p _ n _ HL.out.1 HI.out HT.out HCP.out).mono ?_
      rintro e W19 ⟨soA, scA, uA, rfl, hOR, hB⟩
      replace HA := Lib.hid (HA.out.below hB)
      replace HA2 := Lib.hid (HA2.out.below hB)
      replace HI := Lib.hid (HI.out.grow hB)
      replace HI2 := Lib.hid (HI2.out.grow hB)
      replace HT := Lib.hid (fun j hj => keep_below hB _ _ (HT.out j hj))
      replace HW0 := Lib.hid (HW0.out.trans (hB.mono HW0.out.size))
      have hsuA := hOR.2.store
      have HUA := Lib.hid (show IsV W19 (fun _ => True) uA A by rw [HAE.out.1]; exact IsV.any hOR.2)
      clear hOR
      clear hB
      refine hK.out _ _ ?_ (fun hHeld => ?_)
      · exact ⟨HA.out.2.1, HA.out.2.2.1, HA.out.2.2.2.1, HA2.out.2.1, HA2.out.2.2.1, HA2.out.2.2.2.1⟩
      clear hK K
      refine wpAnyH_take (i := 3) (v := ?_) rfl (by kernel_rfl) (by kernel_rfl) (by kernel_rfl) (fun _ _ _ h => absurd h.1 (by simp)) (Or.inl ⟨by rfl, ?_⟩) (by assumption) ?_
      rotate_left
      · (intro w hSw; (try dsimp only at hSw); go_simp; try with_reducible rfl)
      simp only [Act.put, List.getElem_toArray, List.getElem_cons_succ, List.getElem_cons_zero, List.setIfInBounds_toArray, List.set_cons_zero, List.set_cons_succ]
      refine wpAnyH_ready (rs := [5, 11]) (by kernel_rfl) (by simp) ?_
      refine AllReadyH.cons (o := _) rfl (fun K hK => ?_) ?_
      · clear hHeld
        go_simp
        refine (lof_calls _ q _ m _ HL.out.2 HI2.out HT.out HCQ.out).mono ?_
        rintro e W20 ⟨soB, scB, uB, rfl, hOR, hB⟩
        replace HA := Lib.hid (HA.out.below hB)
        replace HA2 := Lib.hid (HA2.out.below hB)
        replace HI := Lib.hid (HI.out.grow hB)
        replace HI2 := Lib.hid (HI2.out.grow hB)
        replace HT := Lib.hid (fun j hj => keep_below hB _ _ (HT.out j hj))
        replace HW0 := Lib.hid (HW0.out.trans (hB.mono HW0.out.size))
        replace HUA := Lib.hid (HUA.out.grow hB)
        have hsuB := hOR.2.store
        have HUB := Lib.hid (show IsV W20 (fun _ => True) uB B by rw [HAE.out.2]; exact IsV.any hOR.2)
        clear hOR
        clear hB
        refine hK.out _ _ ?_ (fun hHeld => ?_)
        · exact ⟨HA.out.2.1, HA.out.2.2.1, HA.out.2.2.2.1, HA2.out.2.1, HA2.out.2.2.1, HA2.out.2.2.2.1⟩
        clear hK K
        refine wpAnyH_take (i := 6) (v := ?_) rfl (by kernel_rfl) (by kernel_rfl) (by kernel_rfl) (fun _ _ _ h => absurd h.1 (by simp)) (Or.inl ⟨by rfl, ?_⟩) (by assumption) ?_
        rotate_left
        · (intro w hSw; (try dsimp only at hSw); go_simp; try with_reducible rfl)
        simp only [Act.put, List.getElem_toArray, List.getElem_cons_succ, List.getElem_cons_zero, List.setIfInBounds_toArray, List.set_cons_zero, List.set_cons_succ]
        refine wpAnyH_ready (rs := [7, 11]) (by kernel_rfl) (by simp) ?_
        refine AllReadyH.cons (o := _) rfl (fun K hK => ?_) ?_
        · clear hHeld
          go_simp
          refine (reapply_calls f _ _ A B _ HUA.out HUB.out HGA.out.1 HGB.out.1 HGA.out.2.1 HGB.out.2.1 HT.out).mono ?_
          rintro e W21 ⟨uv, rfl, huv, hB⟩
          replace HA := Lib.hid (HA.out.below hB)
          replace HA2 := Lib.hid (HA2.out.below hB)
          replace HI := Lib.hid (HI.out.grow hB)
          replace HI2 := Lib.hid (HI2.out.grow hB)
          replace HT := Lib.hid (fun j hj => keep_below hB _ _ (HT.out j hj))
          replace HW0 := Lib.hid (HW0.out.trans (hB.mono HW0.out.size))
          replace HUA := Lib.hid (HUA.out.grow hB)
          replace HUB := Lib.hid (HUB.out.grow hB)
          have HUV := Lib.hid huv
          have hsuv := huv.store
          clear huv
          clear hB
          refine hK.out _ _ ?_ (fun hHeld => ?_)
          · exact ⟨HA.out.2.1, HA.out.2.2.1, HA.out.2.2.2.1, HA2.out.2.1, HA2.out.2.2.1, HA2.out.2.2.2.1⟩
          clear hK K
          refine wpAnyH_take (i := 8) (v := ?_) rfl (by kernel_rfl) (by kernel_rfl) (by kernel_rfl) (fun _ _ _ h => absurd h.1 (by simp)) (Or.inl ⟨by rfl, ?_⟩) (by assumption) ?_
          rotate_left
          · (intro w hSw; (try dsimp only at hSw); go_simp; try with_reducible rfl)
          simp only [Act.put, List.getElem_toArray, List.getElem_cons_succ, List.getElem_cons_zero, List.setIfInBounds_toArray, List.set_cons_zero, List.set_cons_succ]
          refine wpAnyH_take (i := 9) (v := ?_) rfl (by kernel_rfl) (by kernel_rfl) (by kernel_rfl) (fun _ _ _ h => absurd h.1 (by simp)) (Or.inl ⟨by rfl, ?_⟩) (by assumption) ?_
          rotate_left
          · (intro w hSw; (try dsimp only at hSw); go_simp; try with_reducible rfl)
          simp only [Act.put, List.getElem_toArray, List.getElem_cons_succ, List.getElem_cons_zero, List.setIfInBounds_toArray, List.set_cons_zero, List.set_cons_succ]
          refine wpAnyH_take (i := 10) (v := ?_) rfl (by kernel_rfl) (by kernel_rfl) (by kernel_rfl) (fun _ _ _ h => absurd h.1 (by simp)) (Or.inl ⟨by rfl, ?_⟩) (by assumption) ?_
          rotate_left
          · (intro w hSw; (try dsimp only at hSw); go_simp; try with_reducible rfl)
          simp only [Act.put, List.getElem_toArray, List.getElem_cons_succ, List.getElem_cons_zero, List.setIfInBounds_toArray, List.set_cons_zero, List.set_cons_succ]
          refine wpAnyH_ready (rs := [11]) (by kernel_rfl) (by simp) ?_
          refine AllReadyH.cons (o := _) rfl (fun K hK => ?_) ?_
          · clear hHeld
            go_simp
            obtain ⟨W22, hWn⟩ : ∃ xw9, W21.alloc (.cells #[.nilIface] 30) = xw9 := ⟨_, rfl⟩
            have hB : Below W21.heap.size W21 W22 := by rw [← hWn]; exact below_new _ _
            have hNB : At1 W22 W21.heap.size .nilIface := by rw [← hWn]; exact At1.new _ _ _
            rw [hWn]
            clear hWn
            obtain ⟨bv, hnm⟩ : ∃ x, W21.heap.size = x := ⟨_, rfl⟩
            have hbk : v2.heap.size ≤ bv := by rw [← hnm]; exact HW0.out.size
            replace HA := Lib.hid (HA.out.below hB)
            replace HA2 := Lib.hid (HA2.out.below hB)
            replace HI := Lib.hid (HI.out.grow hB)
            replace HI2 := Lib.hid (HI2.out.grow hB)
            replace HT := Lib.hid (fun j hj => keep_below hB _ _ (HT.out j hj))
            replace HW0 := Lib.hid (HW0.out.trans (hB.mono HW0.out.size))
            replace HUA := Lib.hid (HUA.out.grow hB)
            replace HUB := Lib.hid (HUB.out.grow hB)
            replace HUV := Lib.hid (HUV.out.grow hB)
            rw [hnm] at hNB ⊢
            have HVW := Lib.hid hNB
            have HBK := Lib.hid hbk
            clear hNB hB hnm hbk
            refine hK.out _ _ ?_ (fun hHeld => ?_)
            · exact ⟨HA.out.2.1, HA.out.2.2.1, HA.out.2.2.2.1, HA2.out.2.1, HA2.out.2.2.1, HA2.out.2.2.2.1⟩
            clear hK K
            refine wpAnyH_ready (rs := [12]) (by kernel_rfl) (by simp) ?_
            refine AllReadyH.cons (o := _) rfl (fun K hK => ?_) ?_
            · clear hHeld
              have s0 := HVW.out.2.1
              have t0 := HVW.out.2.2 0
              go_simp
              clear s0 t0
              obtain ⟨W23, hWn⟩ : ∃ xw9, W22.setCell ⟨bv, 0, none⟩ uv = xw9 := ⟨_, rfl⟩
              rw [hWn]
              replace HUV := Lib.hid (show IsV W23 (fun _ => True) uv (reV f A B) by rw [← hWn]; exact reV_set HUV.out HVW.out.2.1 _)
              replace HVW := Lib.hid (show At1 W23 bv uv by rw [← hWn]; exact HVW.out.set _)
              replace HA := Lib.hid (show At3 W23 w.heap.size (.slice so p.s.length sc) (.slice io p.l.length ic) (.int .i64 p.f) by rw [← hWn]; exact HA.out.other _ (by have := HBK.out; have := HWX.out.1; simp; omega) _)
              replace HA2 := Lib.hid (show At3 W23 (w.heap.size + 1) (.slice so2 q.s.length sc2) (.slice io2 q.l.length ic2) (.int .i64 q.f) by rw [← hWn]; exact HA2.out.other _ (by have := HBK.out; have := HWX.out.2; simp; omega) _)
              replace HW0 := Lib.hid (show Below v2.heap.size v2 W23 by rw [← hWn]; exact HW0.out.setCell HBK.out _)
              clear hWn
              refine hK.out _ _ ?_ (fun hHeld => ?_)
              · exact ⟨HA.out.2.1, HA.out.2.2.1, HA.out.2.2.2.1, HA2.out.2.1, HA2.out.2.2.1, HA2.out.2.2.2.1⟩
              clear hK K
              refine wpAnyH_take (i := 13) (v := ?_) rfl (by kernel_rfl) (by kernel_rfl) (by kernel_rfl) (fun _ _ _ h => absurd h.1 (by simp)) (Or.inl ⟨by rfl, ?_⟩) (by assumption) ?_
              rotate_left
              · (intro w hSw; (try dsimp only at hSw); go_simp; try with_reducible rfl)
              simp only [Act.put, List.getElem_toArray, List.getElem_cons_succ, List.getElem_cons_zero, List.setIfInBounds_toArray, List.set_cons_zero, List.set_cons_succ]
              refine wpAnyH_done (by kernel_rfl) ?_ _
              clear hHeld
              refine ⟨rfl, soA, soB, scA, scB, bv, uA, uB, uv, ?_, HUV.out, HVW.out, HW0.out⟩
              rfl
            exact AllReadyH.nil
          exact AllReadyH.nil
        refine AllReadyH.cons (o := _) rfl (fun K hK => ?_) ?_
        · clear hHeld
          go_simp
          obtain ⟨W21, hWn⟩ : ∃ xw9, W20.alloc (.cells #[.nilIface] 30) = xw9 := ⟨_, rfl⟩
          have hB : Below W20.heap.size W20 W21 := by rw [← hWn]; exact below_new _ _
          have hNB : At1 W21 W20.heap.size .nilIface := by rw [← hWn]; exact At1.new _ _ _
          rw [hWn]
          clear hWn
          obtain ⟨bv, hnm⟩ : ∃ x, W20.heap.size = x := ⟨_, rfl⟩
          have hbk : v2.heap.size ≤ bv := by rw [← hnm]; exact HW0.out.size
          replace HA := Lib.hid (HA.out.below hB)
          replace HA2 := Lib.hid (HA2.out.below hB)
          replace HI := Lib.hid (HI.out.grow hB)
          replace HI2 := Lib.hid (HI2.out.grow hB)
          replace HT := Lib.hid (fun j hj => keep_below hB _ _ (HT.out j hj))
          replace HW0 := Lib.hid (HW0.out.trans (hB.mono HW0.out.size))
          replace HUA := Lib.hid (HUA.out.grow hB)
          replace HUB := Lib.hid (HUB.out.grow hB)
          rw [hnm] at hNB ⊢
          have HVW := Lib.hid hNB
          have HBK := Lib.hid hbk
          clear hNB hB hnm hbk
          refine hK.out _ _ ?_ (fun hHeld => ?_)
          · exact ⟨HA.out.2.1, HA.out.2.2.1, HA.out.2.2.2.1, HA2.out.2.1, HA2.out.2.2.1, HA2.out.2.2.2.1⟩
          clear hK K
          refine wpAnyH_ready (rs := [7]) (by kernel_rfl) (by simp) ?_
          refine AllReadyH.cons (o := _) rfl (fun K hK => ?_) ?_
          · clear hHeld
            go_simp
            refine (reapply_calls f _ _ A B _ HUA.out HUB.out HGA.out.1 HGB.out.1 HGA.out.2.1 HGB.out.2.1 HT.out).mono ?_
            rintro e W22 ⟨uv, rfl, huv, hB⟩
            replace HA := Lib.hid (HA.out.below hB)
            replace HA2 := Lib.hid (HA2.out.below hB)
            replace HI := Lib.hid (HI.out.grow hB)
            replace HI2 := Lib.hid (HI2.out.grow hB)
            replace HT := Lib.hid (fun j hj => keep_below hB _ _ (HT.out j hj))
            replace HW0 := Lib.hid (HW0.out.trans (hB.mono HW0.out.size))
            replace HUA := Lib.hid (HUA.out.grow hB)
            replace HUB := Lib.hid (HUB.out.grow hB)
            replace HVW := Lib.hid (HVW.out.below hB)
            have HUV := Lib.hid huv
            have hsuv := huv.store
            clear huv
            clear hB
            refine hK.out _ _ ?_ (fun hHeld => ?_)
            · exact ⟨HA.out.2.1, HA.out.2.2.1, HA.out.2.2.2.1, HA2.out.2.1, HA2.out.2.2.1, HA2.out.2.2.2.1⟩
            clear hK K
            refine wpAnyH_take (i := 8) (v := ?_) rfl (by kernel_rfl) (by kernel_rfl) (by kernel_rfl) (fun _ _ _ h => absurd h.1 (by simp)) (Or.inl ⟨by rfl, ?_⟩) (by assumption) ?_
            rotate_left
            · (intro w hSw; (try dsimp only at hSw); go_simp; try with_reducible rfl)
            simp only [Act.put, List.getElem_toArray, List.getElem_cons_succ, List.getElem_cons_zero, List.setIfInBounds_toArray, List.set_cons_zero, List.set_cons_succ]
            refine wpAnyH_take (i := 9) (v := ?_) rfl (by kernel_rfl) (by kernel_rfl) (by kernel_rfl) (fun _ _ _ h => absurd h.1 (by simp)) (Or.inl ⟨by rfl, ?_⟩) (by assumption) ?_
            rotate_left
            · (intro w hSw; (try dsimp only at hSw); go_simp; try with_reducible rfl)
            simp only [Act.put, List.getElem_toArray, List.getElem_cons_succ, List.getElem_cons_zero, List.setIfInBounds_toArray, List.set_cons_zero, List.set_cons_succ]
            refine wpAnyH_take (i := 10) (v := ?_) rfl (by kernel_rfl) (by kernel_rfl) (by kernel_rfl) (fun _ _ _ h => absurd h.1 (by simp)) (Or.inl ⟨by rfl, ?_⟩) (by assumption) ?_
            rotate_left
            · (intro w hSw; (try dsimp only at hSw); go_simp; try with_reducible rfl)
            simp only [Act.put, List.getElem_toArray, List.getElem_cons_succ, List.getElem_cons_zero, List.setIfInBounds_toArray, List.set_cons_zero, List.set_cons_succ]
            refine wpAnyH_ready (rs := [12]) (by kernel_rfl) (by simp) ?_
            refine AllReadyH.cons (o := _) rfl (fun K hK => ?_) ?_
            · clear hHeld
              have s0 := HVW.out.2.1
              have t0 := HVW.out.2.2 0
              go_simp
              clear s0 t0
              obtain ⟨W23, hWn⟩ : ∃ xw9, W22.setCell ⟨bv, 0, none⟩ uv = xw9 := ⟨_, rfl⟩
              rw [hWn]
              replace HUV := Lib.hid (show IsV W23 (fun _ => True) uv (reV f A B) by rw [← hWn]; exact reV_set HUV.out HVW.out.2.1 _)
              replace HVW := Lib.hid (show At1 W23 bv uv by rw [← hWn]; exact HVW.out.set _)
              replace HA := Lib.hid (show At3 W23 w.heap.size (.slice so p.s.length sc) (.slice io p.l.length ic) (.int .i64 p.f) by rw [← hWn]; exact HA.out.other _ (by have := HBK.out; have := HWX.out.1; simp; omega) _)
              replace HA2 := Lib.hid (show At3 W23 (w.heap.size + 1) (.slice so2 q.s.length sc2) (.slice io2 q.l.length ic2) (.int .i64 q.f) by rw [← hWn]; exact HA2.out.other _ (by have := HBK.out; have := HWX.out.2; simp; omega) _)
              replace HW0 := Lib.hid (show Below v2.heap.size v2 W23 by rw [← hWn]; exact HW0.out.setCell HBK.out _)
              clear hWn
              refine hK.out _ _ ?_ (fun hHeld => ?_)
              · exact ⟨HA.out.2.1, HA.out.2.2.1, HA.out.2.2.2.1, HA2.out.2.1, HA2.out.2.2.1, HA2.out.2.2.2.1⟩
              clear hK K
              refine wpAnyH_take (i := 13) (v := ?_) rfl (by kernel_rfl) (by kernel_rfl) (by kernel_rfl) (fun _ _ _ h => absurd h.1 (by simp)) (Or.inl ⟨by rfl, ?_⟩) (by assumption) ?_
              rotate_left
              · (intro w hSw; (try dsimp only at hSw); go_simp; try with_reducible rfl)
              simp only [Act.put, List.getElem_toArray, List.getElem_cons_succ, List.getElem_cons_zero, List.setIfInBounds_toArray, List.set_cons_zero, List.set_cons_succ]
              refine wpAnyH_done (by kernel_rfl) ?_ _
              clear hHeld
              refine ⟨rfl, soA, soB, scA, scB, bv, uA, uB, uv, ?_, HUV.out, HVW.out, HW0.out⟩
              rfl
            exact AllReadyH.nil
          exact AllReadyH.nil
        exact AllReadyH.nil
      refine AllReadyH.cons (o := _) rfl (fun K hK => ?_) ?_
      · clear hHeld
        go_simp
        obtain ⟨W20, hWn⟩ : ∃ xw9, W19.alloc (.cells #[.nilIface] 30) = xw9 := ⟨_, rfl⟩
        have hB : Below W19.heap.size W19 W20 := by rw [← hWn]; exact below_new _ _
        have hNB : At1 W20 W19.heap.size .nilIface := by rw [← hWn]; exact At1.new _ _ _
        rw [hWn]
        clear hWn
        obtain ⟨bv, hnm⟩ : ∃ x, W19.heap.size = x := ⟨_, rfl⟩
        have hbk : v2.heap.size ≤ bv := by rw [← hnm]; exact HW0.out.size
        replace HA := Lib.hid (HA.out.below hB)
        replace HA2 := Lib.hid (HA2.out.below hB)
        replace HI := Lib.hid (HI.out.grow hB)
        replace HI2 := Lib.hid (HI2.out.grow hB)
        replace HT := Lib.hid (fun j hj => keep_below hB _ _ (HT.out j hj))
        replace HW0 := Lib.hid (HW0.out.trans (hB.mono HW0.out.size))
        replace HUA := Lib.hid (HUA.out.grow hB)
        rw [hnm] at hNB ⊢
        have HVW := Lib.hid hNB
        have HBK := Lib.hid hbk
        clear hNB hB hnm hbk
        refine hK.out _ _ ?_ (fun hHeld => ?_)
        · exact ⟨HA.out.2.1, HA.out.2.2.1, HA.out.2.2.2.1, HA2.out.2.1, HA2.out.2.2.1, HA2.out.2.2.2.1⟩
        clear hK K
        refine wpAnyH_ready (rs := [5]) (by kernel_rfl) (by simp) ?_
        refine AllReadyH.cons (o := _) rfl (fun K hK => ?_) ?_
        · clear hHeld
          go_simp
          refine (lof_calls _ q _ m _ HL.out.2 HI2.out HT.out HCQ.out).mono ?_
          rintro e W21 ⟨soB, scB, uB, rfl, hOR, hB⟩
          replace HA := Lib.hid (HA.out.below hB)
          replace HA2 := Lib.hid (HA2.out.below hB)
          replace HI := Lib.hid (HI.out.grow hB)
          replace HI2 := Lib.hid (HI2.out.grow hB)
          replace HT := Lib.hid (fun j hj => keep_below hB _ _ (HT.out j hj))
          replace HW0 := Lib.hid (HW0.out.trans (hB.mono HW0.out.size))
          replace HUA := Lib.hid (HUA.out.grow hB)
          replace HVW := Lib.hid (HVW.out.below hB)
          have hsuB := hOR.2.store
          have HUB := Lib.hid (show IsV W21 (fun _ => True) uB B by rw [HAE.out.2]; exact IsV.any hOR.2)
          clear hOR
          clear hB
          refine hK.out _ _ ?_ (fun hHeld => ?_)
          · exact ⟨HA.out.2.1, HA.out.2.2.1, HA.out.2.2.2.1, HA2.out.2.1, HA2.out.2.2.1, HA2.out.2.2.2.1⟩
          clear hK K
          refine wpAnyH_take (i := 6) (v := ?_) rfl (by kernel_rfl) (by kernel_rfl) (by kernel_rfl) (fun _ _ _ h => absurd h.1 (by simp)) (Or.inl ⟨by rfl, ?_⟩) (by assumption) ?_
          rotate_left
          · (intro w hSw; (try dsimp only at hSw); go_simp; try with_reducible rfl)
          simp only [Act.put, List.getElem_toArray, List.getElem_cons_succ, List.getElem_cons_zero, List.setIfInBounds_toArray, List.set_cons_zero, List.set_cons_succ]
          refine wpAnyH_ready (rs := [7]) (by kernel_rfl) (by simp) ?_
          refine AllReadyH.cons (o := _) rfl (fun K hK => ?_) ?_
          · clear hHeld
            go_simp
            refine (reapply_calls f _ _ A B _ HUA.out HUB.out HGA.out.1 HGB.out.1 HGA.out.2.1 HGB.out.2.1 HT.out).mono ?_
            rintro e W22 ⟨uv, rfl, huv, hB⟩
            replace HA := Lib.hid (HA.out.below hB)
            replace HA2 := Lib.hid (HA2.out.below hB)
            replace HI := Lib.hid (HI.out.grow hB)
            replace HI2 := Lib.hid (HI2.out.grow hB)
            replace HT := Lib.hid (fun j hj => keep_below hB _ _ (HT.out j hj))
            replace HW0 := Lib.hid (HW0.out.trans (hB.mono HW0.out.size))
            replace HUA := Lib.hid (HUA.out.grow hB)
            replace HVW := Lib.hid (HVW.out.below hB)
            replace HUB := Lib.hid (HUB.out.grow hB)
            have HUV := Lib.hid huv
            have hsuv := huv.store
            clear huv
            clear hB
            refine hK.out _ _ ?_ (fun hHeld => ?_)
            · exact ⟨HA.out.2.1, HA.out.2.2.1, HA.out.2.2.2.1, HA2.out.2.1, HA2.out.2.2.1, HA2.out.2.2.2.1⟩
            clear hK K
            refine wpAnyH_take (i := 8) (v := ?_) rfl (by kernel_rfl) (by kernel_rfl) (by kernel_rfl) (fun _ _ _ h => absurd h.1 (by simp)) (Or.inl ⟨by rfl, ?_⟩) (by assumption) ?_
            rotate_left
            · (intro w hSw; (try dsimp only at hSw); go_simp; try with_reducible rfl)
            simp only [Act.put, List.getElem_toArray, List.getElem_cons_succ, List.getElem_cons_zero, List.setIfInBounds_toArray, List.set_cons_zero, List.set_cons_succ]
            refine wpAnyH_take (i := 9) (v := ?_) rfl (by kernel_rfl) (by kernel_rfl) (by kernel_rfl) (fun _ _ _ h => absurd h.1 (by simp)) (Or.inl ⟨by rfl, ?_⟩) (by assumption) ?_
            rotate_left
            · (intro w hSw; (try dsimp only at hSw); go_simp; try with_reducible rfl)
            simp only [Act.put, List.getElem_toArray, List.getElem_cons_succ, List.getElem_cons_zero, List.setIfInBounds_toArray, List.set_cons_zero, List.set_cons_succ]
            refine wpAnyH_take (i := 10) (v := ?_) rfl (by kernel_rfl) (by kernel_rfl) (by kernel_rfl) (fun _ _ _ h => absurd h.1 (by simp)) (Or.inl ⟨by rfl, ?_⟩) (by assumption) ?_
            rotate_left
            · (intro w hSw; (try dsimp only at hSw); go_simp; try with_reducible rfl)
            simp only [Act.put, List.getElem_toArray, List.getElem_cons_succ, List.getElem_cons_zero, List.setIfInBounds_toArray, List.set_cons_zero, List.set_cons_succ]
            refine wpAnyH_ready (rs := [12]) (by kernel_rfl) (by simp) ?_
            refine AllReadyH.cons (o := _) rfl (fun K hK => ?_) ?_
            · clear hHeld
              have s0 := HVW.out.2.1
              have t0 := HVW.out.2.2 0
              go_simp
              clear s0 t0
              obtain ⟨W23, hWn⟩ : ∃ xw9, W22.setCell ⟨bv, 0, none⟩ uv = xw9 := ⟨_, rfl⟩
              rw [hWn]
              replace HUV := Lib.hid (show IsV W23 (fun _ => True) uv (reV f A B) by rw [← hWn]; exact reV_set HUV.out HVW.out.2.1 _)
              replace HVW := Lib.hid (show At1 W23 bv uv by rw [← hWn]; exact HVW.out.set _)
              replace HA := Lib.hid (show At3 W23 w.heap.size (.slice so p.s.length sc) (.slice io p.l.length ic) (.int .i64 p.f) by rw [← hWn]; exact HA.out.other _ (by have := HBK.out; have := HWX.out.1; simp; omega) _)
              replace HA2 := Lib.hid (show At3 W23 (w.heap.size + 1) (.slice so2 q.s.length sc2) (.slice io2 q.l.length ic2) (.int .i64 q.f) by rw [← hWn]; exact HA2.out.other _ (by have := HBK.out; have := HWX.out.2; simp; omega) _)
              replace HW0 := Lib.hid (show Below v2.heap.size v2 W23 by rw [← hWn]; exact HW0.out.setCell HBK.out _)
              clear hWn
              refine hK.out _ _ ?_ (fun hHeld => ?_)
              · exact ⟨HA.out.2.1, HA.out.2.2.1, HA.out.2.2.2.1, HA2.out.2.1, HA2.out.2.2.1, HA2.out.2.2.2.1⟩
              clear hK K
              refine wpAnyH_take (i := 13) (v := ?_) rfl (by kernel_rfl) (by kernel_rfl) (by kernel_rfl) (fun _ _ _ h => absurd h.1 (by simp)) (Or.inl ⟨by rfl, ?_⟩) (by assumption) ?_
              rotate_left
              · (intro w hSw; (try dsimp only at hSw); go_simp; try with_reducible rfl)
              simp only [Act.put, List.getElem_toArray, List.getElem_cons_succ, List.getElem_cons_zero, List.setIfInBounds_toArray, List.set_cons_zero, List.set_cons_succ]
              refine wpAnyH_done (by kernel_rfl) ?_ _
              clear hHeld
              refine ⟨rfl, soA, soB, scA, scB, bv, uA, uB, uv, ?_, HUV.out, HVW.out, HW0.out⟩
              rfl
            exact AllReadyH.nil
          exact AllReadyH.nil
        exact AllReadyH.nil
      exact AllReadyH.nil
    refine AllReadyH.cons (o := _) rfl (fun K hK => ?_) ?_
    · clear hHeld
      go_simp
      obtain ⟨W19, hWn⟩ : ∃ xw9, W18.alloc (.cells #[.nilIface] 30) = xw9 := ⟨_, rfl⟩
      have hB : Below W18.heap.size W18 W19 := by rw [← hWn]; exact below_new _ _
      have hNB : At1 W19 W18.heap.size .nilIface := by rw [← hWn]; exact At1.new _ _ _
      rw [hWn]
      clear hWn
      obtain ⟨bv, hnm⟩ : ∃ x, W18.heap.size = x := ⟨_, rfl⟩
      have hbk : v2.heap.size ≤ bv := by rw [← hnm]; exact HW0.out.size
      replace HA := Lib.hid (HA.out.below hB)
      replace HA2 := Lib.hid (HA2.out.below hB)
      replace HI := Lib.hid (HI.out.grow hB)
      replace HI2 := Lib.hid (HI2.out.grow hB)
      replace HT := Lib.hid (fun j hj => keep_below hB _ _ (HT.out j hj))
      replace HW0 := Lib.hid (HW0.out.trans (hB.mono HW0.out.size))
      rw [hnm] at hNB ⊢
      have HVW := Lib.hid hNB
      have HBK := Lib.hid hbk
      clear hNB hB hnm hbk
      refine hK.out _ _ ?_ (fun hHeld => ?_)
      · exact ⟨HA.out.2.1, HA.out.2.2.1, HA.out.2.2.2.1, HA2.out.2.1, HA2.out.2.2.1, HA2.out.2.2.2.1⟩
      clear hK K
      refine wpAnyH_ready (rs := [2]) (by kernel_rfl) (by simp) ?_
      refine AllReadyH.cons (o := _) rfl (fun K hK => ?_) ?_
      · clear hHeld
        go_simp
        refine (lof_calls _ p _ n _ HL.out.1 HI.out HT.out HCP.out).mono ?_
        rintro e W20 ⟨soA, scA, uA, rfl, hOR, hB⟩
        replace HA := Lib.hid (HA.out.below hB)
        replace HA2 := Lib.hid (HA2.out.below hB)
        replace HI := Lib.hid (HI.out.grow hB)
        replace HI2 := Lib.hid (HI2.out.grow hB)
        replace HT := Lib.hid (fun j hj => keep_below hB _ _ (HT.out j hj))
        replace HW0 := Lib.hid (HW0.out.trans (hB.mono HW0.out.size))
        replace HVW := Lib.hid (HVW.out.below hB)
        have hsuA := hOR.2.store
        have HUA := Lib.hid (show IsV W20 (fun _ => True) uA A by rw [HAE.out.1]; exact IsV.any hOR.2)
        clear hOR
        clear hB
        refine hK.out _ _ ?_ (fun hHeld => ?_)
        · exact ⟨HA.out.2.1, HA.out.2.2.1, HA.out.2.2.2.1, HA2.out.2.1, HA2.out.2.2.1, HA2.out.2.2.2.1⟩
        clear hK K
        refine wpAnyH_take (i := 3) (v := ?_) rfl (by kernel_rfl) (by kernel_rfl) (by kernel_rfl) (fun _ _ _ h => absurd h.1 (by simp)) (Or.inl ⟨by rfl, ?_⟩) (by assumption) ?_
        rotate_left
        · (intro w hSw; (try dsimp only at hSw); go_simp; try with_reducible rfl)
        simp only [Act.put, List.getElem_toArray, List.getElem_cons_succ, List.getElem_cons_zero, List.setIfInBounds_toArray, List.set_cons_zero, List.set_cons_succ]
        refine wpAnyH_ready (rs := [5]) (by kernel_rfl) (by simp) ?_
        refine AllReadyH.cons (o := _) rfl (fun K hK => ?_) ?_
        · clear hHeld
          go_simp
          refine (lof_calls _ q _ m _ HL.out.2 HI2.out HT.out HCQ.out).mono ?_
          rintro e W21 ⟨soB, scB, uB, rfl, hOR, hB⟩
          replace HA := Lib.hid (HA.out.below hB)
          replace HA2 := Lib.hid (HA2.out.below hB)
          replace HI := Lib.hid (HI.out.grow hB)
          replace HI2 := Lib.hid (HI2.out.grow hB)
          replace HT := Lib.hid (fun j hj => keep_below hB _ _ (HT.out j hj))
          replace HW0 := Lib.hid (HW0.out.trans (hB.mono HW0.out.size))
          replace HVW := Lib.hid (HVW.out.below hB)
          replace HUA := Lib.hid (HUA.out.grow hB)
          have hsuB := hOR.2.store
          have HUB := Lib.hid (show IsV W21 (fun _ => True) uB B by rw [HAE.out.2]; exact IsV.any hOR.2)
          clear hOR
          clear hB
          refine hK.out _ _ ?_ (fun hHeld => ?_)
          · exact ⟨HA.out.2.1, HA.out.2.2.1, HA.out.2.2.2.1, HA2.out.2.1, HA2.out.2.2.1, HA2.out.2.2.2.1⟩
          clear hK K
          refine wpAnyH_take (i := 6) (v := ?_) rfl (by kernel_rfl) (by kernel_rfl) (by kernel_rfl) (fun _ _ _ h => absurd h.1 (by simp)) (Or.inl ⟨by rfl, ?_⟩) (by assumption) ?_
          rotate_left
          · (intro w hSw; (try dsimp only at hSw); go_simp; try with_reducible rfl)
          simp only [Act.put, List.getElem_toArray, List.getElem_cons_succ, List.getElem_cons_zero, List.setIfInBounds_toArray, List.set_cons_zero, List.set_cons_succ]
          refine wpAnyH_ready (rs := [7]) (by kernel_rfl) (by simp) ?_
          refine AllReadyH.cons (o := _) rfl (fun K hK => ?_) ?_
          · clear hHeld
            go_simp
            refine (reapply_calls f _ _ A B _ HUA.out HUB.out HGA.out.1 HGB.out.1 HGA.out.2.1 HGB.out.2.1 HT.out).mono ?_
            rintro e W22 ⟨uv, rfl, huv, hB⟩
            replace HA := Lib.hid (HA.out.below hB)
            replace HA2 := Lib.hid (HA2.out.below hB)
            replace HI := Lib.hid (HI.out.grow hB)
            replace HI2 := Lib.hid (HI2.out.grow hB)
            replace HT := Lib.hid (fun j hj => keep_below hB _ _ (HT.out j hj))
            replace HW0 := Lib.hid (HW0.out.trans (hB.mono HW0.out.size))
            replace HVW := Lib.hid (HVW.out.below hB)
            replace HUA := Lib.hid (HUA.out.grow hB)
            replace HUB := Lib.hid (HUB.out.grow hB)
            have HUV := Lib.hid huv
            have hsuv := huv.store
            clear huv
            clear hB
            refine hK.out _ _ ?_ (fun hHeld => ?_)
            · exact ⟨HA.out.2.1, HA.out.2.2.1, HA.out.2.2.2.1, HA2.out.2.1, HA2.out.2.2.1, HA2.out.2.2.2.1⟩
            clear hK K
            refine wpAnyH_take (i := 8) (v := ?_) rfl (by kernel_rfl) (by kernel_rfl) (by kernel_rfl) (fun _ _ _ h => absurd h.1 (by simp)) (Or.inl ⟨by rfl, ?_⟩) (by assumption) ?_
            rotate_left
            · (intro w hSw; (try dsimp only at hSw); go_simp; try with_reducible rfl)
            simp only [Act.put, List.getElem_toArray, List.getElem_cons_succ, List.getElem_cons_zero, List.setIfInBounds_toArray, List.set_cons_zero, List.set_cons_succ]
            refine wpAnyH_take (i := 9) (v := ?_) rfl (by kernel_rfl) (by kernel_rfl) (by kernel_rfl) (fun _ _ _ h => absurd h.1 (by simp)) (Or.inl ⟨by rfl, ?_⟩) (by assumption) ?_
            rotate_left
            · (intro w hSw; (try dsimp only at hSw); go_simp; try with_reducible rfl)
            simp only [Act.put, List.getElem_toArray, List.getElem_cons_succ, List.getElem_cons_zero, List.setIfInBounds_toArray, List.set_cons_zero, List.set_cons_succ]
            refine wpAnyH_take (i := 10) (v := ?_) rfl (by kernel_rfl) (by kernel_rfl) (by kernel_rfl) (fun _ _ _ h => absurd h.1 (by simp)) (Or.inl ⟨by rfl, ?_⟩) (by assumption) ?_
            rotate_left
            · (intro w hSw; (try dsimp only at hSw); go_simp; try with_reducible rfl)
            simp only [Act.put, List.getElem_toArray, List.getElem_cons_succ, List.getElem_cons_zero, List.setIfInBounds_toArray, List.set_cons_zero, List.set_cons_succ]
            refine wpAnyH_ready (rs := [12]) (by kernel_rfl) (by simp) ?_
            refine AllReadyH.cons (o := _) rfl (fun K hK => ?_) ?_
            · clear hHeld
              have s0 := HVW.out.2.1
              have t0 := HVW.out.2.2 0
              go_simp
              clear s0 t0
              obtain ⟨W23, hWn⟩ : ∃ xw9, W22.setCell ⟨bv, 0, none⟩ uv = xw9 := ⟨_, rfl⟩
              rw [hWn]
              replace HUV := Lib.hid (show IsV W23 (fun _ => True) uv (reV f A B) by rw [← hWn]; exact reV_set HUV.out HVW.out.2.1 _)
              replace HVW := Lib.hid (show At1 W23 bv uv by rw [← hWn]; exact HVW.out.set _)
              replace HA := Lib.hid (show At3 W23 w.heap.size (.slice so p.s.length sc) (.slice io p.l.length ic) (.int .i64 p.f) by rw [← hWn]; exact HA.out.other _ (by have := HBK.out; have := HWX.out.1; simp; omega) _)
              replace HA2 := Lib.hid (show At3 W23 (w.heap.size + 1) (.slice so2 q.s.length sc2) (.slice io2 q.l.length ic2) (.int .i64 q.f) by rw [← hWn]; exact HA2.out.other _ (by have := HBK.out; have := HWX.out.2; simp; omega) _)
              replace HW0 := Lib.hid (show Below v2.heap.size v2 W23 by rw [← hWn]; exact HW0.out.setCell HBK.out _)
              clear hWn
              refine hK.out _ _ ?_ (fun hHeld => ?_)
              · exact ⟨HA.out.2.1, HA.out.2.2.1, HA.out.2.2.2.1, HA2.out.2.1, HA2.out.2.2.1, HA2.out.2.2.2.1⟩
              clear hK K
              refine wpAnyH_take (i := 13) (v := ?_) rfl (by kernel_rfl) (by kernel_rfl) (by kernel_rfl) (fun _ _ _ h => absurd h.1 (by simp)) (Or.inl ⟨by rfl, ?_⟩) (by assumption) ?_
              rotate_left
              · (intro w hSw; (try dsimp only at hSw); go_simp; try with_reducible rfl)
              simp only [Act.put, List.getElem_toArray, List.getElem_cons_succ, List.getElem_cons_zero, List.setIfInBounds_toArray, List.set_cons_zero, List.set_cons_succ]
              refine wpAnyH_done (by kernel_rfl) ?_ _
              clear hHeld
              refine ⟨rfl, soA, soB, scA, scB, bv, uA, uB, uv, ?_, HUV.out, HVW.out, HW0.out⟩
              rfl
            exact AllReadyH.nil
          exact AllReadyH.nil
        exact AllReadyH.nil
      exact AllReadyH.nil
    exact AllReadyH.nil
  rintro _ w3 ⟨soA, soB, scA, scB, bv, uA, uB, uv, rfl, hUV, hAT, hB⟩
  have HUV := Lib.hid hUV
  have HVW := Lib.hid hAT
  have hsuv := hUV.store
  clear hUV hAT
  replace HA := Lib.hid (HA.out.below hB)
  replace HA2 := Lib.hid (HA2.out.below hB)
  replace HB := Lib.hid (HB.out.trans (hB.mono HB.out.size))
  replace HI := Lib.hid (HI.out.grow hB)
  replace HI2 := Lib.hid (HI2.out.grow hB)
  replace HT := Lib.hid (fun j hj => keep_below hB _ _ (HT.out j hj))
  replace HVX := Lib.hid (HVX.out.below hB)
  replace HVY := Lib.hid (HVY.out.below hB)
  replace HXP := Lib.hid (HXP.out.grow hB)
  replace HYP := Lib.hid (HYP.out.grow hB)
  clear hB
  simp only [Act.put, List.setIfInBounds_toArray, List.set_cons_zero, List.set_cons_succ]
  obtain ⟨E, hE⟩ : ∃ E, reE f A B = E := ⟨_, rfl⟩
  obtain ⟨RV, hRV⟩ : ∃ RV, reV f A B = RV := ⟨_, rfl⟩
  obtain ⟨L, hLL⟩ : ∃ L, (if E = 0 then relL f A B (lenN A.len B.len) else []) = L := ⟨_, rfl⟩
  have HPK := Lib.hid (show RV.packed = L ∧ RV.isBit = decide (E = 0) by rw [← hRV, ← hLL, ← hE]; exact reV_packed)
  have HRE := Lib.hid (show rrE f X.f Y.f X.l.length Y.l.length = E by rw [HTL.out.1, HTL.out.2, HFL.out.1, HFL.out.2, itsA_len, itsA_len, ← hE]; rfl)
  have HRW := Lib.hid (show rrR f X.f Y.f X.l Y.l = L by rw [HTL.out.1, HTL.out.2, HFL.out.1, HFL.out.2, rr_row, ← hLL, ← hE])
  have HLM := Lib.hid (show L.length ≤ 1048576 by
    rw [← hLL]
    split
    · rw [relL_len]; exact lenN_le (VV.ok_len HGA.out.1) (VV.ok_len HGB.out.1)
    · simp)
  have HXL := Lib.hid (show X.l.length ≤ 1048576 ∧ Y.l.length ≤ 1048576 by rw [HTL.out.1, HTL.out.2, itsA_len, itsA_len]; exact ⟨VV.ok_len HGA.out.1, VV.ok_len HGB.out.1⟩)
  have HFX := Lib.hid (show (∀ x ∈ X.l, Fnt x.2.1) ∧ ∀ x ∈ Y.l, Fnt x.2.1 by rw [HTL.out.1, HTL.out.2]; exact ⟨itsA_fnt HGA.out.1 HGA.out.2.1, itsA_fnt HGB.out.1 HGB.out.2.1⟩)
  have HCX := Lib.hid (show (X.f = 0 ∨ X.f = 1 ∨ X.f = 2) ∧ (Y.f = 0 ∨ Y.f = 1 ∨ Y.f = 2) by rw [HFL.out.1, HFL.out.2]; exact ⟨VV.cls3 _, VV.cls3 _⟩)
  rw [hRV] at HUV
  rw [hE]
  obtain ⟨_, _, _, _, h9, _, hIX⟩ := HXP.out.opened
  cases h9
  obtain ⟨_, _, _, _, h9, _, hIY⟩ := HYP.out.opened
  cases h9
  have HIX := Lib.hid hIX
  have HIY := Lib.hid hIY
  clear hE hRV hLL hIX hIY
  have cHA0 := HA.out.2.1
  have cHA1 := HA.out.2.2.1
  have cHA2 := HA.out.2.2.2.1
  have cHA20 := HA2.out.2.1
  have cHA21 := HA2.out.2.2.1
  have cHA22 := HA2.out.2.2.2.1
  have cHVX0 := HVX.out.2.1
  have cHVX1 := HVX.out.2.2.1
  have cHVX2 := HVX.out.2.2.2.1
  have cHVY0 := HVY.out.2.1
  have cHVY1 := HVY.out.2.2.1
  have cHVY2 := HVY.out.2.2.2.1
  have cHVW0 := HVW.out.2.1
  go_wp2_with fail
  refine (rrapply_calls f X.f Y.f HCX.out.1 HCX.out.2 _ _ X.l Y.l _ HIX.out HIY.out HXL.out.1 HXL.out.2 HFX.out.1 HFX.out.2).mono ?_
  rintro e W18 ⟨vr, rfl, hvr, hB⟩
  clear cHA0 cHA1 cHA2 cHA20 cHA21 cHA22 cHVX0 cHVX1 cHVX2 cHVY0 cHVY1 cHVY2 cHVW0
  replace HA := Lib.hid (HA.out.below hB)
  replace HA2 := Lib.hid (HA2.out.below hB)
  replace HB := Lib.hid (HB.out.trans (hB.mono HB.out.size))
  replace HI := Lib.hid (HI.out.grow hB)
  replace HI2 := Lib.hid (HI2.out.grow hB)
  replace HT := Lib.hid (fun j hj => keep_below hB _ _ (HT.out j hj))
  replace HVX := Lib.hid (HVX.out.below hB)
  replace HVY := Lib.hid (HVY.out.below hB)
  replace HXP := Lib.hid (HXP.out.grow hB)
  replace HYP := Lib.hid (HYP.out.grow hB)
  replace HUV := Lib.hid (HUV.out.grow hB)
  replace HVW := Lib.hid (HVW.out.below hB)
  replace HIX := Lib.hid (HIX.out.grow hB)
  replace HIY := Lib.hid (HIY.out.grow hB)
  rw [HRE.out]
  rw [HRW.out] at hvr
  have HVR := Lib.hid (hvr.any)
  clear hvr
  clear hB
  have cHA0 := HA.out.2.1
  have cHA1 := HA.out.2.2.1
  have cHA2 := HA.out.2.2.2.1
  have cHA20 := HA2.out.2.1
  have cHA21 := HA2.out.2.2.1
  have cHA22 := HA2.out.2.2.2.1
  have cHVX0 := HVX.out.2.1
  have cHVX1 := HVX.out.2.2.1
  have cHVX2 := HVX.out.2.2.2.1
  have cHVY0 := HVY.out.2.1
  have cHVY1 := HVY.out.2.2.1
  have cHVY2 := HVY.out.2.2.2.1
  have cHVW0 := HVW.out.2.1
  go_wp2_with fail
  refine (vpacked_calls _ RV _ HUV.out).mono ?_
  rintro e W19 ⟨vp, rfl, hvp, hB⟩
  clear cHA0 cHA1 cHA2 cHA20 cHA21 cHA22 cHVX0 cHVX1 cHVX2 cHVY0 cHVY1 cHVY2 cHVW0
  replace HA := Lib.hid (HA.out.below hB)
  replace HA2 := Lib.hid (HA2.out.below hB)
  replace HB := Lib.hid (HB.out.trans (hB.mono HB.out.size))
  replace HI := Lib.hid (HI.out.grow hB)
  replace HI2 := Lib.hid (HI2.out.grow hB)
  replace HT := Lib.hid (fun j hj => keep_below hB _ _ (HT.out j hj))
  replace HVX := Lib.hid (HVX.out.below hB)
  replace HVY := Lib.hid (HVY.out.below hB)
  replace HXP := Lib.hid (HXP.out.grow hB)
  replace HYP := Lib.hid (HYP.out.grow hB)
  replace HUV := Lib.hid (HUV.out.grow hB)
  replace HVW := Lib.hid (HVW.out.below hB)
  replace HIX := Lib.hid (HIX.out.grow hB)
  replace HIY := Lib.hid (HIY.out.grow hB)
  replace HVR := Lib.hid (HVR.out.below hB)
  rw [HPK.out.1] at hvp
  rw [HPK.out.2]
  have HVP := Lib.hid hvp
  obtain ⟨apx, cpx, rfl, hcx⟩ := hvp.opened
  clear hvp hcx
  clear hB
  obtain ⟨W20, hWn⟩ : ∃ xw9, W19.alloc (.cells #[.int .i64 L.length, .slice apx ((L.length + 63) / 64) cpx] 42) = xw9 := ⟨_, rfl⟩
  have hB : Below W19.heap.size W19 W20 := by rw [← hWn]; exact below_new _ _
  have hNB : At2 W20 W19.heap.size (.int .i64 L.length) (.slice apx ((L.length + 63) / 64) cpx) := by rw [← hWn]; exact At2.new _ _ _ _
  replace HA := Lib.hid (HA.out.below hB)
  replace HA2 := Lib.hid (HA2.out.below hB)
  replace HB := Lib.hid (HB.out.trans (hB.mono HB.out.size))
  replace HI := Lib.hid (HI.out.grow hB)
  replace HI2 := Lib.hid (HI2.out.grow hB)
  replace HT := Lib.hid (fun j hj => keep_below hB _ _ (HT.out j hj))
  replace HVX := Lib.hid (HVX.out.below hB)
  replace HVY := Lib.hid (HVY.out.below hB)
  replace HXP := Lib.hid (HXP.out.grow hB)
  replace HYP := Lib.hid (HYP.out.grow hB)
  replace HUV := Lib.hid (HUV.out.grow hB)
  replace HVW := Lib.hid (HVW.out.below hB)
  replace HIX := Lib.hid (HIX.out.grow hB)
  replace HIY := Lib.hid (HIY.out.grow hB)
  replace HVR := Lib.hid (HVR.out.below hB)
  replace HVP := Lib.hid (HVP.out.keep (keep_below hB))
  have HPA := Lib.hid hNB
  clear hNB hB
  by_cases h0 : E = 0
  rotate_left
  · have hd : decide (E = 0) = false := decide_eq_false h0
    have hz : (E == 0) = false := by simpa using h0
    have hee : (E != E) = false := by simp
    clear h0
    rw [hd]
    have cHA0 := HA.out.2.1
    have cHA1 := HA.out.2.2.1
    have cHA2 := HA.out.2.2.2.1
    have cHA20 := HA2.out.2.1
    have cHA21 := HA2.out.2.2.1
    have cHA22 := HA2.out.2.2.2.1
    have cHVX0 := HVX.out.2.1
    have cHVX1 := HVX.out.2.2.1
    have cHVX2 := HVX.out.2.2.2.1
    have cHVY0 := HVY.out.2.1
    have cHVY1 := HVY.out.2.2.1
    have cHVY2 := HVY.out.2.2.2.1
    have cHVW0 := HVW.out.2.1
    have cHPA0 := HPA.out.2.1
    have cHPA1 := HPA.out.2.2.1
    go_wp2_with fail
    clear hWn
    refine (unpack_slc _ L _ HVP.out HLM.out).mono ?_
    rintro e W21 ⟨vn, rfl, hvn, hB⟩
    clear cHA0 cHA1 cHA2 cHA20 cHA21 cHA22 cHVX0 cHVX1 cHVX2 cHVY0 cHVY1 cHVY2 cHVW0 cHPA0 cHPA1
    replace HA := Lib.hid (HA.out.below hB)
    replace HA2 := Lib.hid (HA2.out.below hB)
    replace HB := Lib.hid (HB.out.trans (hB.mono HB.out.size))
    replace HI := Lib.hid (HI.out.grow hB)
    replace HI2 := Lib.hid (HI2.out.grow hB)
    replace HT := Lib.hid (fun j hj => keep_below hB _ _ (HT.out j hj))
    replace HVX := Lib.hid (HVX.out.below hB)
    replace HVY := Lib.hid (HVY.out.below hB)
    replace HXP := Lib.hid (HXP.out.grow hB)
    replace HYP := Lib.hid (HYP.out.grow hB)
    replace HUV := Lib.hid (HUV.out.grow hB)
    replace HVW := Lib.hid (HVW.out.below hB)
    replace HIX := Lib.hid (HIX.out.grow hB)
    replace HIY := Lib.hid (HIY.out.grow hB)
    replace HVR := Lib.hid (HVR.out.below hB)
    replace HVP := Lib.hid (HVP.out.keep (keep_below hB))
    replace HPA := Lib.hid (HPA.out.below hB)
    have HVN := Lib.hid hvn.any
    clear hvn
    clear hB
    have cHA0 := HA.out.2.1
    have cHA1 := HA.out.2.2.1
    have cHA2 := HA.out.2.2.2.1
    have cHA20 := HA2.out.2.1
    have cHA21 := HA2.out.2.2.1
    have cHA22 := HA2.out.2.2.2.1
    have cHVX0 := HVX.out.2.1
    have cHVX1 := HVX.out.2.2.1
    have cHVX2 := HVX.out.2.2.2.1
    have cHVY0 := HVY.out.2.1
    have cHVY1 := HVY.out.2.2.1
    have cHVY2 := HVY.out.2.2.2.1
    have cHVW0 := HVW.out.2.1
    have cHPA0 := HPA.out.2.1
    have cHPA1 := HPA.out.2.2.1
    go_wp2_with fail
    refine (bools_calls _ _ L L _ HVN.out.1.sl HVR.out.1.sl (by have := HLM.out; unfold maxLen; omega)).mono ?_
    rintro e W22 ⟨rfl, hB⟩
    clear cHA0 cHA1 cHA2 cHA20 cHA21 cHA22 cHVX0 cHVX1 cHVX2 cHVY0 cHVY1 cHVY2 cHVW0 cHPA0 cHPA1
    replace HA := Lib.hid (HA.out.below hB)
    replace HA2 := Lib.hid (HA2.out.below hB)
    replace HB := Lib.hid (HB.out.trans (hB.mono HB.out.size))
    replace HI := Lib.hid (HI.out.grow hB)
    replace HI2 := Lib.hid (HI2.out.grow hB)
    replace HT := Lib.hid (fun j hj => keep_below hB _ _ (HT.out j hj))
    replace HVX := Lib.hid (HVX.out.below hB)
    replace HVY := Lib.hid (HVY.out.below hB)
    replace HXP := Lib.hid (HXP.out.grow hB)
    replace HYP := Lib.hid (HYP.out.grow hB)
    replace HUV := Lib.hid (HUV.out.grow hB)
    replace HVW := Lib.hid (HVW.out.below hB)
    replace HIX := Lib.hid (HIX.out.grow hB)
    replace HIY := Lib.hid (HIY.out.grow hB)
    replace HVR := Lib.hid (HVR.out.below hB)
    replace HVP := Lib.hid (HVP.out.keep (keep_below hB))
    replace HPA := Lib.hid (HPA.out.below hB)
    replace HVN := Lib.hid (HVN.out.below hB)
    rw [beq_self_eq_true]
    clear hB
    have cHA0 := HA.out.2.1
    have cHA1 := HA.out.2.2.1
    have cHA2 := HA.out.2.2.2.1
    have cHA20 := HA2.out.2.1
    have cHA21 := HA2.out.2.2.1
    have cHA22 := HA2.out.2.2.2.1
    have cHVX0 := HVX.out.2.1
    have cHVX1 := HVX.out.2.2.1
    have cHVX2 := HVX.out.2.2.2.1
    have cHVY0 := HVY.out.2.1
    have cHVY1 := HVY.out.2.2.1
    have cHVY2 := HVY.out.2.2.2.1
    have cHVW0 := HVW.out.2.1
    have cHPA0 := HPA.out.2.1
    have cHPA1 := HPA.out.2.2.1
    go_wp2_with fail
    refine (awake11_calls _ HT.out).mono ?_
    rintro e W23 ⟨rfl, hB⟩
    clear cHA0 cHA1 cHA2 cHA20 cHA21 cHA22 cHVX0 cHVX1 cHVX2 cHVY0 cHVY1 cHVY2 cHVW0 cHPA0 cHPA1
    replace HA := Lib.hid (HA.out.below hB)
    replace HA2 := Lib.hid (HA2.out.below hB)
    replace HB := Lib.hid (HB.out.trans (hB.mono HB.out.size))
    replace HI := Lib.hid (HI.out.grow hB)
    replace HI2 := Lib.hid (HI2.out.grow hB)
    replace HT := Lib.hid (fun j hj => keep_below hB _ _ (HT.out j hj))
    replace HVX := Lib.hid (HVX.out.below hB)
    replace HVY := Lib.hid (HVY.out.below hB)
    replace HXP := Lib.hid (HXP.out.grow hB)
    replace HYP := Lib.hid (HYP.out.grow hB)
    replace HUV := Lib.hid (HUV.out.grow hB)
    replace HVW := Lib.hid (HVW.out.below hB)
    replace HIX := Lib.hid (HIX.out.grow hB)
    replace HIY := Lib.hid (HIY.out.grow hB)
    replace HVR := Lib.hid (HVR.out.below hB)
    replace HVP := Lib.hid (HVP.out.keep (keep_below hB))
    replace HPA := Lib.hid (HPA.out.below hB)
    replace HVN := Lib.hid (HVN.out.below hB)
    clear hB
    have cHA0 := HA.out.2.1
    have cHA1 := HA.out.2.2.1
    have cHA2 := HA.out.2.2.2.1
    have cHA20 := HA2.out.2.1
    have cHA21 := HA2.out.2.2.1
    have cHA22 := HA2.out.2.2.2.1
    have cHVX0 := HVX.out.2.1
    have cHVX1 := HVX.out.2.2.1
    have cHVX2 := HVX.out.2.2.2.1
    have cHVY0 := HVY.out.2.1
    have cHVY1 := HVY.out.2.2.1
    have cHVY2 := HVY.out.2.2.2.1
    have cHVW0 := HVW.out.2.1
    have cHPA0 := HPA.out.2.1
    have cHPA1 := HPA.out.2.2.1
    go_wp2_with fail
    go_ret
    exact ⟨rfl, HB.out⟩
  · subst h0
    rw [show decide ((0 : Int) = 0) = true from rfl]
    have cHA0 := HA.out.2.1
    have cHA1 := HA.out.2.2.1
    have cHA2 := HA.out.2.2.2.1
    have cHA20 := HA2.out.2.1
    have cHA21 := HA2.out.2.2.1
    have cHA22 := HA2.out.2.2.2.1
    have cHVX0 := HVX.out.2.1
    have cHVX1 := HVX.out.2.2.1
    have cHVX2 := HVX.out.2.2.2.1
    have cHVY0 := HVY.out.2.1
    have cHVY1 := HVY.out.2.2.1
    have cHVY2 := HVY.out.2.2.2.1
    have cHVW0 := HVW.out.2.1
    have cHPA0 := HPA.out.2.1
    have cHPA1 := HPA.out.2.2.1
    go_wp2_with fail
    clear hWn
    refine (unpack_slc _ L _ HVP.out HLM.out).mono ?_
    rintro e W21 ⟨vn, rfl, hvn, hB⟩
    clear cHA0 cHA1 cHA2 cHA20 cHA21 cHA22 cHVX0 cHVX1 cHVX2 cHVY0 cHVY1 cHVY2 cHVW0 cHPA0 cHPA1
    replace HA := Lib.hid (HA.out.below hB)
    replace HA2 := Lib.hid (HA2.out.below hB)
    replace HB := Lib.hid (HB.out.trans (hB.mono HB.out.size))
    replace HI := Lib.hid (HI.out.grow hB)
    replace HI2 := Lib.hid (HI2.out.grow hB)
    replace HT := Lib.hid (fun j hj => keep_below hB _ _ (HT.out j hj))
    replace HVX := Lib.hid (HVX.out.below hB)
    replace HVY := Lib.hid (HVY.out.below hB)
    replace HXP := Lib.hid (HXP.out.grow hB)
    replace HYP := Lib.hid (HYP.out.grow hB)
    replace HUV := Lib.hid (HUV.out.grow hB)
    replace HVW := Lib.hid (HVW.out.below hB)
    replace HIX := Lib.hid (HIX.out.grow hB)
    replace HIY := Lib.hid (HIY.out.grow hB)
    replace HVR := Lib.hid (HVR.out.below hB)
    replace HVP := Lib.hid (HVP.out.keep (keep_below hB))
    replace HPA := Lib.hid (HPA.out.below hB)
    have HVN := Lib.hid hvn.any
    clear hvn
    clear hB
    have cHA0 := HA.out.2.1
    have cHA1 := HA.out.2.2.1
    have cHA2 := HA.out.2.2.2.1
    have cHA20 := HA2.out.2.1
    have cHA21 := HA2.out.2.2.1
    have cHA22 := HA2.out.2.2.2.1
    have cHVX0 := HVX.out.2.1
    have cHVX1 := HVX.out.2.2.1
    have cHVX2 := HVX.out.2.2.2.1
    have cHVY0 := HVY.out.2.1
    have cHVY1 := HVY.out.2.2.1
    have cHVY2 := HVY.out.2.2.2.1
    have cHVW0 := HVW.out.2.1
    have cHPA0 := HPA.out.2.1
    have cHPA1 := HPA.out.2.2.1
    go_wp2_with fail
    refine (bools_calls _ _ L L _ HVN.out.1.sl HVR.out.1.sl (by have := HLM.out; unfold maxLen; omega)).mono ?_
    rintro e W22 ⟨rfl, hB⟩
    clear cHA0 cHA1 cHA2 cHA20 cHA21 cHA22 cHVX0 cHVX1 cHVX2 cHVY0 cHVY1 cHVY2 cHVW0 cHPA0 cHPA1
    replace HA := Lib.hid (HA.out.below hB)
    replace HA2 := Lib.hid (HA2.out.below hB)
    replace HB := Lib.hid (HB.out.trans (hB.mono HB.out.size))
    replace HI := Lib.hid (HI.out.grow hB)
    replace HI2 := Lib.hid (HI2.out.grow hB)
    replace HT := Lib.hid (fun j hj => keep_below hB _ _ (HT.out j hj))
    replace HVX := Lib.hid (HVX.out.below hB)
    replace HVY := Lib.hid (HVY.out.below hB)
    replace HXP := Lib.hid (HXP.out.grow hB)
    replace HYP := Lib.hid (HYP.out.grow hB)
    replace HUV := Lib.hid (HUV.out.grow hB)
    replace HVW := Lib.hid (HVW.out.below hB)
    replace HIX := Lib.hid (HIX.out.grow hB)
    replace HIY := Lib.hid (HIY.out.grow hB)
    replace HVR := Lib.hid (HVR.out.below hB)
    replace HVP := Lib.hid (HVP.out.keep (keep_below hB))
    replace HPA := Lib.hid (HPA.out.below hB)
    replace HVN := Lib.hid (HVN.out.below hB)
    rw [beq_self_eq_true]
    clear hB
    have cHA0 := HA.out.2.1
    have cHA1 := HA.out.2.2.1
    have cHA2 := HA.out.2.2.2.1
    have cHA20 := HA2.out.2.1
    have cHA21 := HA2.out.2.2.1
    have cHA22 := HA2.out.2.2.2.1
    have cHVX0 := HVX.out.2.1
    have cHVX1 := HVX.out.2.2.1
    have cHVX2 := HVX.out.2.2.2.1
    have cHVY0 := HVY.out.2.1
    have cHVY1 := HVY.out.2.2.1
    have cHVY2 := HVY.out.2.2.2.1
    have cHVW0 := HVW.out.2.1
    have cHPA0 := HPA.out.2.1
    have cHPA1 := HPA.out.2.2.1
    go_wp2_with fail
    refine (tidy_calls _ L _ HVP.out HLM.out).mono ?_
    rintro e W23 ⟨rfl, hB⟩
    clear cHA0 cHA1 cHA2 cHA20 cHA21 cHA22 cHVX0 cHVX1 cHVX2 cHVY0 cHVY1 cHVY2 cHVW0 cHPA0 cHPA1
    replace HA := Lib.hid (HA.out.below hB)
    replace HA2 := Lib.hid (HA2.out.below hB)
    replace HB := Lib.hid (HB.out.trans (hB.mono HB.out.size))
    replace HI := Lib.hid (HI.out.grow hB)
    replace HI2 := Lib.hid (HI2.out.grow hB)
    replace HT := Lib.hid (fun j hj => keep_below hB _ _ (HT.out j hj))
    replace HVX := Lib.hid (HVX.out.below hB)
    replace HVY := Lib.hid (HVY.out.below hB)
    replace HXP := Lib.hid (HXP.out.grow hB)
    replace HYP := Lib.hid (HYP.out.grow hB)
    replace HUV := Lib.hid (HUV.out.grow hB)
    replace HVW := Lib.hid (HVW.out.below hB)
    replace HIX := Lib.hid (HIX.out.grow hB)
    replace HIY := Lib.hid (HIY.out.grow hB)
    replace HVR := Lib.hid (HVR.out.below hB)
    replace HVP := Lib.hid (HVP.out.keep (keep_below hB))
    replace HPA := Lib.hid (HPA.out.below hB)
    replace HVN := Lib.hid (HVN.out.below hB)
    clear hB
    have cHA0 := HA.out.2.1
    have cHA1 := HA.out.2.2.1
    have cHA2 := HA.out.2.2.2.1
    have cHA20 := HA2.out.2.1
    have cHA21 := HA2.out.2.2.1
    have cHA22 := HA2.out.2.2.2.1
    have cHVX0 := HVX.out.2.1
    have cHVX1 := HVX.out.2.2.1
    have cHVX2 := HVX.out.2.2.2.1
    have cHVY0 := HVY.out.2.1
    have cHVY1 := HVY.out.2.2.1
    have cHVY2 := HVY.out.2.2.2.1
    have cHVW0 := HVW.out.2.1
    have cHPA0 := HPA.out.2.1
    have cHPA1 := HPA.out.2.2.1
    go_wp2_with fail
    refine (awake11_calls _ HT.out).mono ?_
    rintro e W24 ⟨rfl, hB⟩
    clear cHA0 cHA1 cHA2 cHA20 cHA21 cHA22 cHVX0 cHVX1 cHVX2 cHVY0 cHVY1 cHVY2 cHVW0 cHPA0 cHPA1
    replace HA := Lib.hid (HA.out.below hB)
    replace HA2 := Lib.hid (HA2.out.below hB)
    replace HB := Lib.hid (HB.out.trans (hB.mono HB.out.size))
    replace HI := Lib.hid (HI.out.grow hB)
    replace HI2 := Lib.hid (HI2.out.grow hB)
    replace HT := Lib.hid (fun j hj => keep_below hB _ _ (HT.out j hj))
    replace HVX := Lib.hid (HVX.out.below hB)
    replace HVY := Lib.hid (HVY.out.below hB)
    replace HXP := Lib.hid (HXP.out.grow hB)
    replace HYP := Lib.hid (HYP.out.grow hB)
    replace HUV := Lib.hid (HUV.out.grow hB)
    replace HVW := Lib.hid (HVW.out.below hB)
    replace HIX := Lib.hid (HIX.out.grow hB)
    replace HIY := Lib.hid (HIY.out.grow hB)
    replace HVR := Lib.hid (HVR.out.below hB)
    replace HVP := Lib.hid (HVP.out.keep (keep_below hB))
    replace HPA := Lib.hid (HPA.out.below hB)
    replace HVN := Lib.hid (HVN.out.below hB)
    clear hB
    have cHA0 := HA.out.2.1
    have cHA1 := HA.out.2.2.1
    have cHA2 := HA.out.2.2.2.1
    have cHA20 := HA2.out.2.1
    have cHA21 := HA2.out.2.2.1
    have cHA22 := HA2.out.2.2.2.1
    have cHVX0 := HVX.out.2.1
    have cHVX1 := HVX.out.2.2.1
    have cHVX2 := HVX.out.2.2.2.1
    have cHVY0 := HVY.out.2.1
    have cHVY1 := HVY.out.2.2.1
    have cHVY2 := HVY.out.2.2.2.1
    have cHVW0 := HVW.out.2.1
    have cHPA0 := HPA.out.2.1
    have cHPA1 := HPA.out.2.2.1
    go_wp2_with fail
    go_ret
    exact ⟨rfl, HB.out⟩
end Go.Proofs.YtfbecmnlbjhjaaaGreatDoor

/- Layer 11's law RelateApplies, as the frame asks for it. -/
namespace Go.Proofs.YtfbecmnlbjhjaaaGreatDoor
set_option maxRecDepth 100000
open Go.RowKit Fl
set_option linter.unusedVariables false
theorem relateApplies_frame (w : World) (f : Int) (_ : (Lit.int .i64 f).wf = true) (u : Value) (p : PA) (n : Nat) (hl : lo n p) (hp : IsP w (fun _ => True) u p) (v : Value) (q : PA) (m : Nat) (hm : lo m q) (hq : IsP w (fun _ => True) v q) (hT : TabAt w) : Calls Tryz.prog 3 #[.int .i64 f, u, v] w fun e w' => e = .returned (.bool true) ∧ Below w.heap.size w w' :=
  relateApplies_walk f p q u v n m w hl hm hp hq hT
end Go.Proofs.YtfbecmnlbjhjaaaGreatDoor
