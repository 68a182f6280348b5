/- Package vec, walked: None; the reference's Runes, Same, Small. -/
import Derived.Test.YtnicoddkbcfijaaDoorVeM
namespace Go.Proofs.YtnicoddkbcfijaaDoor
open Go.RowKit Fl
set_option linter.unusedVariables false
set_option maxRecDepth 4000

theorem vbits_exact (n : Int) (ao : Option Addr) (m cap : Nat) (w : World) :
    Calls Tryd.prog 37 #[.agg #[.int .i64 n, .slice ao m cap]] w fun e w' => e = .returned (.agg #[.iface 58 (.agg #[.int .i64 n, .slice ao m cap])]) ∧ Below w.heap.size w w' := by
  go_enter Tryd.func37, Tryd.ntmps37
  go_wp2
  exact bodyPost_ret (v := .agg #[.iface 58 (.agg #[.int .i64 n, .slice ao m cap])]) (by simp [results, Tryd.results37, go_sem]) rfl ⟨rfl, (below_new _ _).alloc (by simp) _⟩
/-- No elements of a class. -/
def noneV (c : Int) : VV := if c = 1 then .chars [] else if c = 2 then .boxes [] else .bits []
set_option maxHeartbeats 1000000 in
theorem runes_same {ok ok2 : Nat → Prop} (v1 v2 : Value) (l : List Int) (w : World) (h1 : Slc w ok v1 l.length (i32s l)) (h2 : Slc w ok2 v2 l.length (i32s l)) (hm : l.length ≤ 2000000) :
    Calls Tryd.prog 22 #[v1, v2] w fun e w' => e = .returned (.bool true) ∧ Below w.heap.size w w' := by
  have H1 := Lib.hid h1
  have H2 := Lib.hid h2
  obtain ⟨ao, cap, rfl, _⟩ := h1.opened
  obtain ⟨ao2, cap2, rfl, _⟩ := h2.opened
  obtain ⟨n, hn⟩ : ∃ n, n = l.length := ⟨_, rfl⟩
  rw [← hn] at hm
  have hb : ((n : Int) != (n : Int)) = false := by simp
  have HN := Lib.hid hn
  rw [← hn] at H1 H2 ⊢
  clear h1 h2 hn
  go_enter Tryd.func22, Tryd.ntmps22
  go_wp2
  go_loopw [5] (fun i wr => ∃ k q : Nat, k ≤ n ∧ i = .int .i64 k ∧ wr = w.drewN q) (fun i _ => n - (intOf i).toNat)
  case atStart => exact ⟨0, 0, by omega, rfl, rfl⟩
  case round =>
    obtain ⟨k, q, hk, rfl, hwr⟩ := hrel
    have HWR := Lib.hid hwr
    by_cases hlt : k < n
    · have hl := hlt
      rw [HN.out] at hl
      obtain ⟨b, off, cap', x, e1, hx, hcx⟩ := Slc.at_map (Value.int .i32) (by rw [← HN.out]; exact H1.out) k hl
      obtain ⟨b2, off2, cap2', y, e2, hy, hcy⟩ := Slc.at_map (Value.int .i32) (by rw [← HN.out]; exact H2.out) k hl
      obtain rfl : x = y := Option.some.inj (hx.symm.trans hy)
      cases e1
      cases e2
      have hdx : wr.cell? ⟨b, off + k, none⟩ = some (Value.int .i32 x) := by rw [hwr]; exact hcx
      have hdy : wr.cell? ⟨b2, off2 + k, none⟩ = some (Value.int .i32 x) := by rw [hwr]; exact hcy
      have HX := Lib.hid hx
      clear hx hy hl hcx hcy hwr
      go_wp2
      go_quiet (fail)
      go_wp2
      go_roundw
      case rel => exact ⟨k + 1, q + nq, by omega, by go_num, by rw [HWR.out, World.drewN_drewN]⟩
      case measure => simp [intOf]; omega
    · have hkl : k = n := by omega
      clear hkl hwr
      go_wp2
      go_ret
      exact ⟨rfl, by rw [HWR.out]; exact Below.drewN' (Below.refl _ _) _⟩

set_option maxHeartbeats 1000000 in
theorem floats_same {ok ok2 : Nat → Prop} (v1 v2 : Value) (l : List Nat) (w : World) (h1 : Slc w ok v1 l.length (f64s l)) (h2 : Slc w ok2 v2 l.length (f64s l)) (hm : l.length ≤ 2000000) (hN : ∀ x ∈ l, Num x) :
    Calls Tryd.prog 15 #[v1, v2] w fun e w' => e = .returned (.bool true) ∧ Below w.heap.size w w' := by
  have H1 := Lib.hid h1
  have H2 := Lib.hid h2
  obtain ⟨ao, cap, rfl, _⟩ := h1.opened
  obtain ⟨ao2, cap2, rfl, _⟩ := h2.opened
  obtain ⟨n, hn⟩ : ∃ n, n = l.length := ⟨_, rfl⟩
  rw [← hn] at hm
  have hb : ((n : Int) != (n : Int)) = false := by simp
  have HN := Lib.hid hn
  rw [← hn] at H1 H2 ⊢
  clear h1 h2 hn
  have HNu := Lib.hid hN
  clear hN
  go_enter Tryd.func15, Tryd.ntmps15
  go_wp2
  go_loopw [5] (fun i wr => ∃ k q : Nat, k ≤ n ∧ i = .int .i64 k ∧ wr = w.drewN q) (fun i _ => n - (intOf i).toNat)
  case atStart => exact ⟨0, 0, by omega, rfl, rfl⟩
  case round =>
    obtain ⟨k, q, hk, rfl, hwr⟩ := hrel
    have HWR := Lib.hid hwr
    by_cases hlt : k < n
    · have hl := hlt
      rw [HN.out] at hl
      obtain ⟨b, off, cap', x, e1, hx, hcx⟩ := Slc.at_map (Value.float .f64) (by rw [← HN.out]; exact H1.out) k hl
      obtain ⟨b2, off2, cap2', y, e2, hy, hcy⟩ := Slc.at_map (Value.float .f64) (by rw [← HN.out]; exact H2.out) k hl
      obtain rfl : x = y := Option.some.inj (hx.symm.trans hy)
      cases e1
      cases e2
      have hdx : wr.cell? ⟨b, off + k, none⟩ = some (Value.float .f64 x) := by rw [hwr]; exact hcx
      have hdy : wr.cell? ⟨b2, off2 + k, none⟩ = some (Value.float .f64 x) := by rw [hwr]; exact hcy
      have HX := Lib.hid hx
      clear hx hy hl hcx hcy hwr
      have HB0 := Lib.hid (fun w => bits_same x w (HNu.out x (List.mem_of_getElem? HX.out)))
      go_wp2
      go_quiet ((go_at_call 31; exact Calls.quiet_of_same (stl (HB0.out _))))
      go_wp2
      go_roundw
      case rel => exact ⟨k + 1, q + nq, by omega, by go_num, by rw [HWR.out, World.drewN_drewN]⟩
      case measure => simp [intOf]; omega
    · have hkl : k = n := by omega
      clear hkl hwr
      go_wp2
      go_ret
      exact ⟨rfl, by rw [HWR.out]; exact Below.drewN' (Below.refl _ _) _⟩

end Go.Proofs.YtnicoddkbcfijaaDoor
