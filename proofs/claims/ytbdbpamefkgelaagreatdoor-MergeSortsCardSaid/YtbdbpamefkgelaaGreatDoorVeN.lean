/- Package vec, walked: None; the reference's Runes, Same, Small. -/
import Derived.Test.YtbdbpamefkgelaaGreatDoorVeM
namespace Go.Proofs.YtbdbpamefkgelaaGreatDoor
open Go.RowKit Fl
set_option linter.unusedVariables false
set_option maxRecDepth 100000

theorem vbits_exact (n : Int) (ao : Option Addr) (m cap : Nat) (w : World) :
    Calls Tryz.prog 82 #[.agg #[.int .i64 n, .slice ao m cap]] w fun e w' => e = .returned (.agg #[.iface 82 (.agg #[.int .i64 n, .slice ao m cap])]) ∧ Below w.heap.size w w' := by
  go_enter Tryz.func82, Tryz.ntmps82
  go_wp2
  exact bodyPost_ret (v := .agg #[.iface 82 (.agg #[.int .i64 n, .slice ao m cap])]) (by simp [results, Tryz.results82, go_sem]) rfl ⟨rfl, (below_new _ _).alloc (by simp) _⟩
/-- No elements of a class. -/
def noneV (c : Int) : VV := if c = 1 then .chars [] else if c = 2 then .boxes [] else .bits []
set_option maxHeartbeats 1000000 in
theorem vnone_calls (c : Int) (w : World) : Calls Tryz.prog 146 #[.int .i64 c] w fun e w' => ∃ u, e = .returned (.agg #[u]) ∧ IsV w' (fun b => w.heap.size ≤ b) u (noneV c) ∧ Below w.heap.size w w' := by
  by_cases h1 : c = 1
  · subst h1
    go_enter Tryz.func146, Tryz.ntmps146
    go_wp2_with fail
    refine (vchars_calls (ok := fun _ => False) _ [] _ (Slc.nil _ _) (by simp)).mono ?_
    rintro e w1 ⟨u, rfl, hs1, hB⟩
    obtain ⟨_, a0, af⟩ := (At1.new w .nilIface 36).below hB
    have af0 := af 0
    have hshape := hs1.shape
    have HS := Lib.hid hs1
    have HB := Lib.hid ((below_new w (.cells #[.nilIface] 36)).trans (hB.mono (by simp)))
    clear hs1 hB af
    unfold IsIface at hshape
    rcases hshape with rfl | ⟨t, x, rfl⟩
    · go_wp2
      refine bodyPost_ret (v := .agg #[.nilIface]) (by simp [results, Tryz.results146, go_sem, a0]) rfl ⟨_, rfl, ?_, below_set1 _ HB.out (Nat.le_refl _)⟩
      exact HS.out.keep (Kept.setCell _ _ _ (by simp)) (fun b _ h => by simp at h; omega)
    · go_wp2
      refine bodyPost_ret (v := .agg #[.iface t x]) (by simp [results, Tryz.results146, go_sem, a0]) rfl ⟨_, rfl, ?_, below_set1 _ HB.out (Nat.le_refl _)⟩
      exact HS.out.keep (Kept.setCell _ _ _ (by simp)) (fun b _ h => by simp at h; omega)
  · by_cases h2 : c = 2
    · subst h2
      go_enter Tryz.func146, Tryz.ntmps146
      go_wp2_with fail
      refine (vboxes_calls (ok := fun _ => False) _ [] _ (Arrs.nil _ _) (by simp) (by simp)).mono ?_
      rintro e w1 ⟨u, rfl, hs1, hB⟩
      obtain ⟨_, a0, af⟩ := (At1.new w .nilIface 36).below hB
      have af0 := af 0
      have hshape := hs1.shape
      have HS := Lib.hid hs1
      have HB := Lib.hid ((below_new w (.cells #[.nilIface] 36)).trans (hB.mono (by simp)))
      clear hs1 hB af
      unfold IsIface at hshape
      rcases hshape with rfl | ⟨t, x, rfl⟩
      · go_wp2
        refine bodyPost_ret (v := .agg #[.nilIface]) (by simp [results, Tryz.results146, go_sem, a0]) rfl ⟨_, rfl, ?_, below_set1 _ HB.out (Nat.le_refl _)⟩
        exact HS.out.keep (Kept.setCell _ _ _ (by simp)) (fun b _ h => by simp at h; omega)
      · go_wp2
        refine bodyPost_ret (v := .agg #[.iface t x]) (by simp [results, Tryz.results146, go_sem, a0]) rfl ⟨_, rfl, ?_, below_set1 _ HB.out (Nat.le_refl _)⟩
        exact HS.out.keep (Kept.setCell _ _ _ (by simp)) (fun b _ h => by simp at h; omega)
    · have hn : Hid (noneV c = .bits []) := Lib.hid (by unfold noneV; rw [if_neg h1, if_neg h2])
      have h1' : (c == 1) = false := by simpa using h1
      have h2' : (c == 2) = false := by simpa using h2
      clear h1 h2
      go_enter Tryz.func146, Tryz.ntmps146
      go_wp2_with fail
      refine (vbits_exact _ _ _ _ _).mono ?_
      rintro e w1 ⟨rfl, hB⟩
      obtain ⟨_, a0, af⟩ := (At1.new w .nilIface 36).below hB
      have af0 := af 0
      have HB := Lib.hid ((below_new w (.cells #[.nilIface] 36)).trans (hB.mono (by simp)))
      clear hB af
      go_wp2
      refine bodyPost_ret (v := .agg #[.iface 82 (.agg #[.int .i64 0, .slice Option.none 0 0])]) (by simp [results, Tryz.results146, go_sem, a0]) rfl ⟨_, rfl, ?_, below_set1 _ HB.out (Nat.le_refl _)⟩
      rw [hn.out]
      exact .bits (l := []) ⟨rfl, _, _, rfl, fun i hi => absurd hi (by simp [words, bws, u64s])⟩ (by simp)


set_option maxHeartbeats 1000000 in
theorem floats_same {ok ok2 : Nat → Prop} (v1 v2 : Value) (l : List Nat) (w : World) (h1 : Slc w ok v1 l.length (f64s l)) (h2 : Slc w ok2 v2 l.length (f64s l)) (hm : l.length ≤ 2000000) (hN : ∀ x ∈ l, Num x) :
    Calls Tryz.prog 29 #[v1, v2] w fun e w' => e = .returned (.bool true) ∧ Below w.heap.size w w' := by
  have H1 := Lib.hid h1
  have H2 := Lib.hid h2
  obtain ⟨ao, cap, rfl, _⟩ := h1.opened
  obtain ⟨ao2, cap2, rfl, _⟩ := h2.opened
  obtain ⟨n, hn⟩ : ∃ n, n = l.length := ⟨_, rfl⟩
  rw [← hn] at hm
  have hb : ((n : Int) != (n : Int)) = false := by simp
  have HN := Lib.hid hn
  rw [← hn] at H1 H2 ⊢
  clear h1 h2 hn
  have HNu := Lib.hid hN
  clear hN
  go_enter Tryz.func29, Tryz.ntmps29
  go_wp2
  go_loopw [5] (fun i wr => ∃ k q : Nat, k ≤ n ∧ i = .int .i64 k ∧ wr = w.drewN q) (fun i _ => n - (intOf i).toNat)
  case atStart => exact ⟨0, 0, by omega, rfl, rfl⟩
  case round =>
    obtain ⟨k, q, hk, rfl, hwr⟩ := hrel
    have HWR := Lib.hid hwr
    by_cases hlt : k < n
    · have hl := hlt
      rw [HN.out] at hl
      obtain ⟨b, off, cap', x, e1, hx, hcx⟩ := Slc.at_map (Value.float .f64) (by rw [← HN.out]; exact H1.out) k hl
      obtain ⟨b2, off2, cap2', y, e2, hy, hcy⟩ := Slc.at_map (Value.float .f64) (by rw [← HN.out]; exact H2.out) k hl
      obtain rfl : x = y := Option.some.inj (hx.symm.trans hy)
      cases e1
      cases e2
      have hdx : wr.cell? ⟨b, off + k, none⟩ = some (Value.float .f64 x) := by rw [hwr]; exact hcx
      have hdy : wr.cell? ⟨b2, off2 + k, none⟩ = some (Value.float .f64 x) := by rw [hwr]; exact hcy
      have HX := Lib.hid hx
      clear hx hy hl hcx hcy hwr
      have HB0 := Lib.hid (fun w => bits_same x w (HNu.out x (List.mem_of_getElem? HX.out)))
      go_wp2
      go_quiet ((go_at_call 60; exact Calls.quiet_of_same (stl (HB0.out _))))
      go_wp2
      go_roundw
      case rel => exact ⟨k + 1, q + nq, by omega, by go_num, by rw [HWR.out, World.drewN_drewN]⟩
      case measure => simp [intOf]; omega
    · have hkl : k = n := by omega
      clear hkl hwr
      go_wp2
      go_ret
      exact ⟨rfl, by rw [HWR.out]; exact Below.drewN' (Below.refl _ _) _⟩

end Go.Proofs.YtbdbpamefkgelaaGreatDoor
