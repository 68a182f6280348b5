/- Layer 17, walked: the keys of lists. -/
import Derived.Test.YtbdbpamefkgelaaGreatDoorRxA
import Derived.Test.YtbdbpamefkgelaaGreatDoorVeJ
namespace Go.Proofs.YtbdbpamefkgelaaGreatDoor
set_option maxRecDepth 100000
open Go.RowKit Fl
set_option linter.unusedVariables false

/-- The keys of a whole number, of a character. -/
def kI (n : Int) : Nat := (n + 9223372036854775808).toNat
def kR (r : Int) : Nat := (r + 2147483648).toNat
theorem xor_hi {b n : Nat} (h : b < 2 ^ n) : b ^^^ 2 ^ n = 2 ^ n + b := by
  apply Nat.eq_of_testBit_eq
  intro j
  have e9 := Nat.two_pow_add_eq_or_of_lt h 1
  rw [Nat.mul_one] at e9
  rw [Nat.testBit_xor, Nat.testBit_two_pow, e9, Nat.testBit_or, Nat.testBit_two_pow]
  by_cases e : n = j
  · subst e
    rw [Nat.testBit_lt_two_pow h]; simp
  · simp [e]
theorem xor_lo {b n : Nat} (h : b < 2 ^ n) : (2 ^ n + b) ^^^ 2 ^ n = b := by
  rw [← xor_hi h, Nat.xor_assoc, Nat.xor_self, Nat.xor_zero]
theorem key_i64 {n : Int} (h1 : -9223372036854775808 ≤ n) (h2 : n ≤ 9223372036854775807) : bits BinOp.xor IntKind.u64 (IntKind.u64.wrap n) 9223372036854775808 = ((kI n : Nat) : Int) := by
  unfold kI
  by_cases h : 0 ≤ n
  · obtain ⟨a, rfl⟩ := Int.eq_ofNat_of_zero_le h
    rw [show IntKind.u64.wrap ((a : Nat) : Int) = ((a : Nat) : Int) by rw [IntKind.wrap_u64]; omega, show (9223372036854775808 : Int) = ((2 ^ 63 : Nat) : Int) from rfl, u64_xor_nat a (2 ^ 63) (by omega) (by decide), xor_hi (show a < 2 ^ 63 by omega)]
    omega
  · obtain ⟨b, hb⟩ : ∃ b : Nat, n + 9223372036854775808 = (b : Int) := ⟨(n + 9223372036854775808).toNat, by omega⟩
    have hb2 : b < 2 ^ 63 := by omega
    rw [show IntKind.u64.wrap n = ((2 ^ 63 + b : Nat) : Int) by rw [IntKind.wrap_u64]; omega, show (9223372036854775808 : Int) = ((2 ^ 63 : Nat) : Int) from rfl, u64_xor_nat (2 ^ 63 + b) (2 ^ 63) (by omega) (by decide), xor_lo hb2]
    omega
theorem key_i32 {n : Int} (h1 : -2147483648 ≤ n) (h2 : n ≤ 2147483647) : bits BinOp.xor IntKind.u32 (IntKind.u32.wrap n) 2147483648 = ((kR n : Nat) : Int) := by
  unfold kR
  by_cases h : 0 ≤ n
  · obtain ⟨a, rfl⟩ := Int.eq_ofNat_of_zero_le h
    rw [show IntKind.u32.wrap ((a : Nat) : Int) = ((a : Nat) : Int) by rw [IntKind.wrap_u32]; omega, show (2147483648 : Int) = ((2 ^ 31 : Nat) : Int) from rfl, u32_xor_nat a (2 ^ 31) (by omega) (by decide), xor_hi (show a < 2 ^ 31 by omega)]
    omega
  · obtain ⟨b, hb⟩ : ∃ b : Nat, n + 2147483648 = (b : Int) := ⟨(n + 2147483648).toNat, by omega⟩
    have hb2 : b < 2 ^ 31 := by omega
    rw [show IntKind.u32.wrap n = ((2 ^ 31 + b : Nat) : Int) by rw [IntKind.wrap_u32]; omega, show (2147483648 : Int) = ((2 ^ 31 : Nat) : Int) from rfl, u32_xor_nat (2 ^ 31 + b) (2 ^ 31) (by omega) (by decide), xor_lo hb2]
    omega
theorem kI_lt {n : Int} (h1 : -9223372036854775808 ≤ n) (h2 : n ≤ 9223372036854775807) : kI n < 18446744073709551616 := by unfold kI; omega
theorem kR_lt {n : Int} (h1 : -2147483648 ≤ n) (h2 : n ≤ 2147483647) : kR n < 4294967296 := by unfold kR; omega
theorem rxkey2_calls (n : Int) (w : World) (h1 : -9223372036854775808 ≤ n) (h2 : n ≤ 9223372036854775807) : Calls Tryz.prog 101 #[.int .i64 n] w fun e w' => e = .returned (.int .u64 ((kI n : Nat) : Int)) ∧ w = w' := by
  have HK := Lib.hid (key_i64 h1 h2)
  go_enter Tryz.func101, Tryz.ntmps101
  go_wp2
  go_ret
  exact ⟨ret_i HK.out, rfl⟩
theorem rxkey1_calls (n : Int) (w : World) (h1 : -2147483648 ≤ n) (h2 : n ≤ 2147483647) : Calls Tryz.prog 98 #[.int .i32 n] w fun e w' => e = .returned (.int .u64 ((kR n : Nat) : Int)) ∧ w = w' := by
  have HK := Lib.hid (key_i32 h1 h2)
  rw [IntKind.wrap_u32] at HK
  have HL := Lib.hid (kR_lt h1 h2)
  go_enter Tryz.func98, Tryz.ntmps98
  go_wp2
  go_ret
  exact ⟨ret_i (by rw [HK.out]; (try (rw [IntKind.wrap_u64]; have := HL.out; omega))), rfl⟩
theorem run_mkU (n : Nat) (hn : n ≤ 2000000) (w : World) : (Instr.makeSlice 80 (.int .i64 (n : Int)) (.int .i64 (n : Int))).run Tryz.prog w = .ok (.slice (some ⟨w.heap.size, 0, none⟩) n n) (w.alloc (.cells (zerosV (.int .u64 0) n) 111)) := by
  obtain ⟨i0, hi, hz0, hz1, hz2⟩ := info_parts (show (Tryz.prog.info? 111).map (fun i => (i.zero, i.size, i.bytes)) = some (some (.int .u64 0), 1, 8) by kernel_rfl)
  have hr := run_make (P := Tryz.prog) w 80 111 i0 _ Tryz.underlying80 hi hz0 .i64 .i64 n n (by omega) (Int.le_refl _) (by rw [hz2]; omega) (by omega)
  simp only [Int.toNat_natCast, hz1] at hr
  exact hr
theorem u64s_fill {l : List Nat} {k x : Nat} (h : l[k]? = some x) : (fillTo (u64s l) (.int .u64 0) k).set k (.int .u64 (x : Int)) = fillTo (u64s l) (.int .u64 0) (k + 1) := by
  have hk : k < (u64s l).length := by rw [u64s_len]; exact (List.getElem?_eq_some_iff.1 h).1
  have e : (u64s l)[k] = .int .u64 (x : Int) := by
    rw [u64s_get]
    obtain ⟨h1, h2⟩ := List.getElem?_eq_some_iff.1 h
    rw [h2]
  rw [← e, fillTo_set _ _ _ hk]
set_option maxHeartbeats 4000000 in
theorem rxkeysR_calls {ok : Nat → Prop} (v : Value) (l : List Int) (w : World) (hv : Slc w ok v l.length (i32s l)) (hm : l.length ≤ 1048576) (hr : ∀ x ∈ l, -2147483648 ≤ x ∧ x ≤ 2147483647) :
    Calls Tryz.prog 96 #[v, .func (.func 98) #[] #[]] w fun e w' => ∃ u, e = .returned u ∧ Slc w' (fun b => w.heap.size ≤ b) u l.length (u64s (l.map kR)) ∧ Below w.heap.size w w' := by
  have HV := Lib.hid hv
  have HR := Lib.hid hr
  obtain ⟨ao, cap, rfl, _⟩ := hv.opened
  obtain ⟨K, hK⟩ : ∃ K, l.map kR = K := ⟨_, rfl⟩
  obtain ⟨n, hn⟩ : ∃ n, l.length = n := ⟨_, rfl⟩
  have HN := Lib.hid hn
  have HKL := Lib.hid (show (u64s K).length = n by rw [u64s_len, ← hK, List.length_map, hn])
  have HKA := Lib.hid (show ∀ (i : Nat) (x : Int), l[i]? = some x → K[i]? = some (kR x) from fun i x h => by rw [← hK, List.getElem?_map, h]; rfl)
  rw [hK]
  rw [hn] at hm HV ⊢
  clear hv hr hn hK
  have hmk := run_mkU n (by omega) w
  obtain ⟨W0, hW0⟩ : ∃ W0, W0 = w.alloc (.cells (zerosV (.int .u64 0) n) 111) := ⟨_, rfl⟩
  have HO0 : Hid (W0.ownsRow w.heap.size 111 1 (.slice (some ⟨w.heap.size, 0, none⟩) n n) n (fillTo (u64s K) (.int .u64 0) 0)) := Lib.hid (by rw [hW0, fillTo_zero, HKL.out]; exact own_make1 _ _ _ (by omega) _ _ (Nat.le_refl _))
  have HW := Lib.hid (show Below w.heap.size w W0 by rw [hW0]; exact below_new _ _)
  go_enter Tryz.func96, Tryz.ntmps96
  go_wp2
  rw [← hW0]
  clear hW0 hmk
  go_loopw [13] (fun iv wr => ∃ k : Nat, k ≤ n ∧ iv = .int .i64 k ∧ wr.ownsRow w.heap.size 111 1 (.slice (some ⟨w.heap.size, 0, none⟩) n n) n (fillTo (u64s K) (.int .u64 0) k) ∧ Below w.heap.size w wr) (fun iv _ => n - (intOf iv).toNat)
  case atStart => exact ⟨0, by omega, rfl, HO0.out, HW.out⟩
  case round =>
    obtain ⟨k, hk, rfl, hown, hB⟩ := hrel
    have HO := Lib.hid hown
    have HB := Lib.hid hB
    clear hown hB HO0 HW
    by_cases hlt : k < n
    · have HV2 := Lib.hid (HV.out.below HB.out)
      obtain ⟨b, off, cap2, x, e9, hx, hcx⟩ := Slc.at_map (Value.int .i32) (by rw [HN.out]; exact HV2.out) k (by rw [HN.out]; exact hlt)
      rw [HN.out] at e9
      cases e9
      have HX := Lib.hid (HR.out x (List.mem_of_getElem? hx))
      have HKX := Lib.hid (HKA.out k x hx)
      clear hx
      have hcw := owns_cell HO.out k (by rw [fillTo_len _ _ _ (by rw [HKL.out]; exact hk), HKL.out]; exact hlt)
      have hfr := World.ownsRow.frozenAt HO.out k
      go_wp2_with fail
      refine (rxkey1_calls x _ HX.out.1 HX.out.2).mono ?_
      rintro e w9 ⟨rfl, rfl⟩
      go_wp2
      go_roundw
      case rel =>
        refine ⟨k + 1, by omega, by go_num, ?_, HB.out.setCell (Nat.le_refl _) _⟩
        have := (World.ownsRow.stored HO.out k (.int .u64 ((kR x : Nat) : Int))).1
        rw [u64s_fill HKX.out] at this
        exact this
      case measure => simp [intOf]; omega
    · have HE := Lib.hid (show Slc wr (fun b => w.heap.size ≤ b) (.slice (some ⟨w.heap.size, 0, none⟩) n n) n (u64s K) by
        have := Slc.owned HO.out
        rw [show k = n by omega, ← HKL.out, fillTo_all, HKL.out] at this
        exact this)
      go_wp2
      go_ret
      exact ⟨_, rfl, HE.out, HB.out⟩
set_option maxHeartbeats 4000000 in
theorem rxkeysI_calls {ok : Nat → Prop} (v : Value) (l : List Int) (w : World) (hv : Slc w ok v l.length (ints l)) (hm : l.length ≤ 1048576) (hr : ∀ x ∈ l, -9223372036854775808 ≤ x ∧ x ≤ 9223372036854775807) :
    Calls Tryz.prog 100 #[v, .func (.func 101) #[] #[]] w fun e w' => ∃ u, e = .returned u ∧ Slc w' (fun b => w.heap.size ≤ b) u l.length (u64s (l.map kI)) ∧ Below w.heap.size w w' := by
  have HV := Lib.hid hv
  have HR := Lib.hid hr
  obtain ⟨ao, cap, rfl, _⟩ := hv.opened
  obtain ⟨K, hK⟩ : ∃ K, l.map kI = K := ⟨_, rfl⟩
  obtain ⟨n, hn⟩ : ∃ n, l.length = n := ⟨_, rfl⟩
  have HN := Lib.hid hn
  have HKL := Lib.hid (show (u64s K).length = n by rw [u64s_len, ← hK, List.length_map, hn])
  have HKA := Lib.hid (show ∀ (i : Nat) (x : Int), l[i]? = some x → K[i]? = some (kI x) from fun i x h => by rw [← hK, List.getElem?_map, h]; rfl)
  rw [hK]
  rw [hn] at hm HV ⊢
  clear hv hr hn hK
  have hmk := run_mkU n (by omega) w
  obtain ⟨W0, hW0⟩ : ∃ W0, W0 = w.alloc (.cells (zerosV (.int .u64 0) n) 111) := ⟨_, rfl⟩
  have HO0 : Hid (W0.ownsRow w.heap.size 111 1 (.slice (some ⟨w.heap.size, 0, none⟩) n n) n (fillTo (u64s K) (.int .u64 0) 0)) := Lib.hid (by rw [hW0, fillTo_zero, HKL.out]; exact own_make1 _ _ _ (by omega) _ _ (Nat.le_refl _))
  have HW := Lib.hid (show Below w.heap.size w W0 by rw [hW0]; exact below_new _ _)
  go_enter Tryz.func100, Tryz.ntmps100
  go_wp2
  rw [← hW0]
  clear hW0 hmk
  go_loopw [13] (fun iv wr => ∃ k : Nat, k ≤ n ∧ iv = .int .i64 k ∧ wr.ownsRow w.heap.size 111 1 (.slice (some ⟨w.heap.size, 0, none⟩) n n) n (fillTo (u64s K) (.int .u64 0) k) ∧ Below w.heap.size w wr) (fun iv _ => n - (intOf iv).toNat)
  case atStart => exact ⟨0, by omega, rfl, HO0.out, HW.out⟩
  case round =>
    obtain ⟨k, hk, rfl, hown, hB⟩ := hrel
    have HO := Lib.hid hown
    have HB := Lib.hid hB
    clear hown hB HO0 HW
    by_cases hlt : k < n
    · have HV2 := Lib.hid (HV.out.below HB.out)
      obtain ⟨b, off, cap2, x, e9, hx, hcx⟩ := Slc.at_map (Value.int .i64) (by rw [HN.out]; exact HV2.out) k (by rw [HN.out]; exact hlt)
      rw [HN.out] at e9
      cases e9
      have HX := Lib.hid (HR.out x (List.mem_of_getElem? hx))
      have HKX := Lib.hid (HKA.out k x hx)
      clear hx
      have hcw := owns_cell HO.out k (by rw [fillTo_len _ _ _ (by rw [HKL.out]; exact hk), HKL.out]; exact hlt)
      have hfr := World.ownsRow.frozenAt HO.out k
      go_wp2_with fail
      refine (rxkey2_calls x _ HX.out.1 HX.out.2).mono ?_
      rintro e w9 ⟨rfl, rfl⟩
      go_wp2
      go_roundw
      case rel =>
        refine ⟨k + 1, by omega, by go_num, ?_, HB.out.setCell (Nat.le_refl _) _⟩
        have := (World.ownsRow.stored HO.out k (.int .u64 ((kI x : Nat) : Int))).1
        rw [u64s_fill HKX.out] at this
        exact this
      case measure => simp [intOf]; omega
    · have HE := Lib.hid (show Slc wr (fun b => w.heap.size ≤ b) (.slice (some ⟨w.heap.size, 0, none⟩) n n) n (u64s K) by
        have := Slc.owned HO.out
        rw [show k = n by omega, ← HKL.out, fillTo_all, HKL.out] at this
        exact this)
      go_wp2
      go_ret
      exact ⟨_, rfl, HE.out, HB.out⟩

end Go.Proofs.YtbdbpamefkgelaaGreatDoor
