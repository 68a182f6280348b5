/- Package value's law: awake. -/
import Derived.Test.YtbdhibcbpgjbmaaGreatDoorVaR
namespace Go.Proofs.YtbdhibcbpgjbmaaGreatDoor
open Go.RowKit Fl
set_option linter.unusedVariables false
set_option maxRecDepth 100000

def aw7 : PA := .mk [2, 2] [(0, 4607182418800017408, 0, []), (0, 0, 0, []), (0, 0, 0, []), (0, 4607182418800017408, 0, [])] 0
theorem aw7_chk : chk 40 aw7 = 0 := by decide +kernel
theorem aw7_kind : (arrP 40 aw7).2.kind = 1 := by
 have hw := chk_well.1 (show chk (39 + 1) aw7 = 0 from aw7_chk)
 obtain ⟨_, _, _, _, _, k, _⟩ := numsV_spec (well_fin hw rfl) (prodR_len hw.2.2.1).2
 rw [show (40 : Nat) = 39 + 1 from rfl, arrP_zero rfl]
 simp only
 rw [k]
 have e : (aw7.l.map fun x => ze x.2.1) = [4607182418800017408, 0, 0, 4607182418800017408] := by decide +kernel
 have k1 : kindW 4607182418800017408 = 1 := (kindW_c (n := 1) (by decide) c_1).trans (kz1 (.inr rfl))
 have k0 : kindW 0 = 1 := (kindW_c (n := 0) (by decide) c_0).trans (kz1 (.inl rfl))
 rw [e, leastW_cons, leastW_cons, leastW_cons, leastW_one, k1, k0]
 rfl
theorem aw7_tidy : tidyP 40 aw7 = aw7 := by
 have e : ze 4607182418800017408 = 4607182418800017408 := by decide +kernel
 have e0 : ze 0 = 0 := by decide +kernel
 show PA.mk _ (aw7.l.map (tidyI (tidyP 39))) _ = aw7
 simp [aw7, PA.l, PA.s, PA.f, tidyI, e, e0]
theorem aw7_dep : depP 40 aw7 = 1 := by decide +kernel
theorem aw7_lo : lo 2 aw7 := by
 intro x hx
 have hx : x ∈ [(0, 4607182418800017408, 0, []), (0, 0, 0, []), (0, 0, 0, []), (0, 4607182418800017408, 0, [])] := hx
 simp only [List.mem_cons, List.not_mem_nil, or_false] at hx
 rcases hx with rfl | rfl | rfl | rfl <;> exact ⟨by decide, by simp⟩
theorem aw7_nice : nice 40 aw7 := by
 have := nice_tidy 40 aw7 aw7_chk
 rwa [aw7_tidy] at this

end Go.Proofs.YtbdhibcbpgjbmaaGreatDoor
