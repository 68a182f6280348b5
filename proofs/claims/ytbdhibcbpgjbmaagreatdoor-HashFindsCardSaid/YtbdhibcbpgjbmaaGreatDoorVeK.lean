/- Package vec, walked: clone. -/
import Derived.Test.YtbdhibcbpgjbmaaGreatDoorVeJ
import Derived.Deep.RegionLaw
namespace Go.Proofs.YtbdhibcbpgjbmaaGreatDoor
open Go.RowKit
set_option linter.unusedVariables false
set_option maxRecDepth 100000

theorem below_undrew' {w w1 : World} (h : Below w.drew.heap.size w.drew w1) : Below w.heap.size w w1 := ⟨h.os, h.tape, h.output, h.size, h.block⟩
def IsIface (u : Value) : Prop := u = .nilIface ∨ ∃ t x, u = .iface t x
theorem IsV.shape {w : World} {ok : Nat → Prop} {u : Value} {V : VV} (h : IsV w ok u V) : IsIface u := by cases h <;> first | exact .inl rfl | exact .inr ⟨_, _, rfl⟩

set_option maxHeartbeats 2000000 in
theorem aclone_calls {ok : Nat → Prop} (sh u : Value) (S : List Int) (w : World) (hs : Slc w ok sh S.length (ints S)) (hu : IsIface u) (hm : S.length ≤ 1048576) :
  Calls Tryz.prog 91 #[.agg #[sh, u]] w fun e w' => ∃ sh', e = .returned (.agg #[sh', u]) ∧ Slc w' (fun b => w.heap.size ≤ b) sh' S.length (ints S) ∧ Below w.heap.size w w' := by
 have HS := Lib.hid hs
 obtain ⟨ao, cap, rfl, _, _, _, _⟩ := hs.opened
 clear hs
 obtain ⟨W0, hW0⟩ : ∃ W0, W0 = (w.alloc (.cells #[.slice ao S.length cap, u] 38)).alloc (.cells #[.slice none 0 0, .nilIface] 38) := ⟨_, rfl⟩
 have HA := Lib.hid (show At2 W0 w.heap.size (.slice ao S.length cap) u by rw [hW0]; exact (At2.new _ _ _ _).alloc _)
 have HR := Lib.hid (show At2 W0 (w.heap.size + 1) (.slice none 0 0) .nilIface by rw [hW0]; have := At2.new (w.alloc (.cells #[.slice ao S.length cap, u] 38)) (.slice none 0 0) .nilIface 38; simpa using this)
 have HW := Lib.hid (show Below w.heap.size w W0 by rw [hW0]; exact (below_new _ _).alloc (by simp) _)
 have HZ := Lib.hid (show W0.heap.size = w.heap.size + 2 by rw [hW0]; simp)
 have HC := Lib.hid (show ∀ wx, Below W0.heap.size W0 wx → Calls Tryz.prog 72 #[.slice ao S.length cap] wx fun e w1 => ∃ v1, e = .returned v1 ∧ Slc w1 (fun b => w.heap.size + 2 ≤ b) v1 S.length (ints S) ∧ Below W0.heap.size W0 w1 from fun wx hx =>
  (CloneInt_calls _ S wx ((HS.out.below HW.out).below hx) (by omega)).mono fun e w1 ⟨v1, h1, h2, h3⟩ => ⟨v1, h1, h2.keep (Kept.refl _ _) (fun b _ h => by have := hx.size; have := HZ.out; omega), hx.trans (h3.mono hx.size)⟩)
 have hdr : Hid (Below W0.heap.size W0 W0.drew) := Lib.hid (Below.drewN' (Below.refl _ _) 1)
 rcases hu with rfl | ⟨t, x, rfl⟩
 all_goals
  go_enter Tryz.func91, Tryz.ntmps91
  go_wp2
  rw [← hW0]
  clear hW0
  obtain ⟨_, x0, x1, _⟩ := HA.out
  go_region_with ((first
   | (go_at_call 72; refine (HC.out _ hdr.out).mono ?_; rintro e w1 ⟨v1, rfl, hs1, hB⟩; have HS1 := Lib.hid hs1; have HB := Lib.hid hB; obtain ⟨ao1, cap1, rfl, _⟩ := hs1.opened; obtain ⟨_, y0, y1, _⟩ := HA.out.below HB.out; obtain ⟨_, z0, z1, zf⟩ := HR.out.below HB.out; have zf0 := zf 0; have zf1 := zf 1; clear hs1 hB zf)))
  all_goals
   go_wp2
   first
    | refine bodyPost_ret (v := .agg #[.slice ao1 S.length cap1, .nilIface]) (by simp [results, Tryz.results91, go_sem, z0, z1]) rfl ⟨_, rfl, ?_, ?_⟩
    | refine bodyPost_ret (v := .agg #[.slice ao1 S.length cap1, .iface t x]) (by simp [results, Tryz.results91, go_sem, z0, z1]) rfl ⟨_, rfl, ?_, ?_⟩
   ·exact HS1.out.keep ((Kept.setCell _ _ _ (by simp <;> omega)).trans (Kept.setCell _ _ _ (by simp <;> omega))) (fun b _ h => by omega)
   ·exact ((HW.out.trans (HB.out.mono HW.out.size)).setCell (Nat.le_succ _) _).setCell (Nat.le_succ _) _
end Go.Proofs.YtbdhibcbpgjbmaaGreatDoor
