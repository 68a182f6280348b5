/- Layer 17, walked: digit, the reference's Digit, Spread, the reference's Spread; an array of 2048 numbers. -/
import Derived.Test.YtbdbpamefkgelaaGreatDoorRxP
import Derived.Test.YtbdbpamefkgelaaGreatDoorVeI
import Derived.Test.YtbdbpamefkgelaaGreatDoorPiA
namespace Go.Proofs.YtbdbpamefkgelaaGreatDoor
set_option maxRecDepth 100000
open Go.RowKit Fl
set_option linter.unusedVariables false

def isZ : Value → Bool
  | .int .i64 n => n == 0
  | _ => false
theorem isZ_eq {v : Value} (h : isZ v = true) : v = .int .i64 0 := by
  unfold isZ at h
  split at h
  · rw [eq_of_beq h]
  · cases h
theorem zero_arrD : (Tryz.zeroCells146.size, Tryz.zeroCells146.toList.all isZ) = (2048, true) := by kernel_rfl
theorem own_arrD (w : World) (base : Nat) (hb : base ≤ w.heap.size) : (w.alloc (.cells Tryz.zeroCells146 146)).ownsRow base 146 1 (.slice (some ⟨w.heap.size, 0, none⟩) 2048 2048) 2048 (List.replicate 2048 (.int .i64 0)) := by
  have h := zero_arrD
  simp only [Prod.mk.injEq] at h
  have ho := World.ownsRow_lit (e := 146) (size := 1) w Tryz.zeroCells146 2048 hb (by unfold maxLen; omega) (by rw [h.1])
  rwa [show Tryz.zeroCells146.toList = List.replicate 2048 (.int .i64 0) from List.eq_replicate_iff.2 ⟨by rw [Array.length_toList]; exact h.1, fun b hb => isZ_eq (List.all_eq_true.1 h.2 b hb)⟩] at ho
set_option maxHeartbeats 4000000 in
theorem rxdigit_calls {ok : Nat → Prop} (v : Value) (keys : List Nat) (i s : Nat) (down : Bool) (w : World) (hv : Slc w ok v keys.length (u64s keys)) (hi : i < keys.length) (hs : s < 64) (hm : keys.length ≤ 1048576) (hk : ∀ x ∈ keys, x < 18446744073709551616) :
    Calls Tryz.prog 102 #[v, .int .i64 (i : Int), .int .u64 (s : Int), .bool down] w fun e w' => e = .returned (.int .i64 ((dgK down (fun i => keys.getD i 0) s i : Nat) : Int)) ∧ w = w' := by
  obtain ⟨b, off, cap, x, rfl, hx, hcx⟩ := Slc.at_map (fun z : Nat => Value.int .u64 (z : Int)) hv i hi
  have hD : dgK down (fun i => keys.getD i 0) s i = dgD down (x / 2 ^ s % 2048) := by
    unfold dgK digN
    simp only []
    rw [show keys.getD i 0 = x by rw [List.getD_eq_getElem?_getD, hx]; rfl]
  have hxl := hk x (List.mem_of_getElem? hx)
  rw [hD]
  obtain ⟨D, hDD⟩ : ∃ D, x / 2 ^ s % 2048 = D := ⟨_, rfl⟩
  have hDl : D < 2048 := by rw [← hDD]; exact Nat.mod_lt _ (by decide)
  obtain ⟨n, hn⟩ : ∃ n, keys.length = n := ⟨_, rfl⟩
  rw [hn] at hi hm ⊢
  have d1 : (x : Int) / 2 ^ s % 2048 = (D : Int) := by rw [← hDD]; simp
  have d2 : ((x : Int) / 2 ^ s).tmod 2048 = (D : Int) := by rw [← hDD, show (x : Int) / 2 ^ s = ((x / 2 ^ s : Nat) : Int) by simp, show (2048 : Int) = ((2048 : Nat) : Int) from rfl, ← Int.ofNat_tmod]
  rw [hDD]
  have HD := Lib.hid hDl
  clear hv hk hx hD hDD hn
  cases down
  · go_enter Tryz.func102, Tryz.ntmps102
    go_wp2
    go_ret
    exact ⟨ret_i (by unfold dgD; simp), rfl⟩
  · go_enter Tryz.func102, Tryz.ntmps102
    go_wp2
    go_ret
    exact ⟨ret_i (by have := HD.out; unfold dgD; simp only [if_true]; omega), rfl⟩
/-- Bits in which the first k keys differ from the first one. -/
def spP (keys : List Nat) (k : Nat) : Nat := spF (keys.headD 0) (keys.take k)
theorem spP_zero (keys : List Nat) : spP keys 0 = 0 := rfl
theorem spP_succ {keys : List Nat} {k x : Nat} (h : keys[k]? = some x) : spP keys (k + 1) = spP keys k ||| (x ^^^ keys.headD 0) := by
  unfold spP spF
  rw [take_getX h, List.foldl_append]; rfl
theorem xor_lt64 {a b : Nat} (ha : a < 18446744073709551616) (hb : b < 18446744073709551616) : a ^^^ b < 18446744073709551616 := Nat.xor_lt_two_pow (n := 64) ha hb
theorem or_lt64 {a b : Nat} (ha : a < 18446744073709551616) (hb : b < 18446744073709551616) : a ||| b < 18446744073709551616 := Nat.or_lt_two_pow (n := 64) ha hb
theorem head_lt {keys : List Nat} (hk : ∀ x ∈ keys, x < 18446744073709551616) : keys.headD 0 < 18446744073709551616 := by
  cases keys with
  | nil => decide
  | cons a l => exact hk a (List.mem_cons_self ..)
theorem spP_lt {keys : List Nat} (hk : ∀ x ∈ keys, x < 18446744073709551616) : ∀ k, k ≤ keys.length → spP keys k < 18446744073709551616 := by
  intro k
  induction k with
  | zero => intro _; rw [spP_zero]; decide
  | succ k ih =>
    intro h
    rw [spP_succ (List.getElem?_eq_getElem (show k < keys.length by omega))]
    exact or_lt64 (ih (by omega)) (xor_lt64 (hk _ (List.getElem_mem _)) (head_lt hk))
theorem spP_all {keys : List Nat} (hk : ∀ x ∈ keys, x < 18446744073709551616) : spP keys keys.length = spN keys 64 := by
  unfold spP; rw [List.take_length]
  exact spF_spN (n := 64) hk
theorem head_at {keys : List Nat} {x : Nat} (h : keys[0]? = some x) : keys.headD 0 = x := by
  cases keys with
  | nil => cases h
  | cons a l => exact Option.some.inj h
set_option maxHeartbeats 4000000 in
theorem rxspread_calls {ok : Nat → Prop} (v : Value) (keys : List Nat) (w : World) (hv : Slc w ok v keys.length (u64s keys)) (hm : keys.length ≤ 1048576) (hk : ∀ x ∈ keys, x < 18446744073709551616) :
    Calls Tryz.prog 72 #[v] w fun e w' => e = .returned (.int .u64 ((spN keys 64 : Nat) : Int)) ∧ w = w' := by
  have HV := Lib.hid hv
  have HK := Lib.hid hk
  have HA := Lib.hid (spP_all hk)
  obtain ⟨ao, cap, rfl, _⟩ := hv.opened
  obtain ⟨n, hn⟩ : ∃ n, keys.length = n := ⟨_, rfl⟩
  have HN := Lib.hid hn
  rw [hn] at hm HV HA ⊢
  clear hv hk hn
  go_enter Tryz.func72, Tryz.ntmps72
  go_wp2
  go_loopw [3, 8] (fun zv iv wr => ∃ k : Nat, k ≤ n ∧ iv = .int .i64 k ∧ zv = .int .u64 ((spP keys k : Nat) : Int) ∧ wr = w) (fun _ iv _ => n - (intOf iv).toNat)
  case atStart => exact ⟨0, by omega, rfl, rfl, rfl⟩
  case round =>
    obtain ⟨k, hkn, rfl, rfl, rfl⟩ := hrel
    obtain ⟨c, hc⟩ : ∃ c, spP keys k = c := ⟨_, rfl⟩
    have hcl : c < 18446744073709551616 := by rw [← hc]; exact spP_lt HK.out k (by rw [HN.out]; exact hkn)
    rw [hc]
    have HC := Lib.hid hc
    clear hc
    by_cases hlt : k < n
    · obtain ⟨b, off, cap2, x, e9, hx, hcx⟩ := Slc.at_map (fun z : Nat => Value.int .u64 (z : Int)) (by rw [HN.out]; exact HV.out) k (by rw [HN.out]; exact hlt)
      rw [HN.out] at e9
      cases e9
      obtain ⟨b0, off0, cap0, x0, e9, hx0, hcx0⟩ := Slc.at_map (fun z : Nat => Value.int .u64 (z : Int)) (by rw [HN.out]; exact HV.out) 0 (by rw [HN.out]; omega)
      rw [HN.out] at e9
      cases e9
      have hxl := HK.out x (List.mem_of_getElem? hx)
      have hx0l := HK.out x0 (List.mem_of_getElem? hx0)
      have HST := Lib.hid (spP_succ hx)
      have HH := Lib.hid (head_at hx0)
      have b1 : bits BinOp.xor IntKind.u64 (x : Int) (x0 : Int) = ((x ^^^ x0 : Nat) : Int) := u64_xor_nat x x0 hxl hx0l
      have hxx := xor_lt64 hxl hx0l
      have b2 : bits BinOp.or IntKind.u64 (c : Int) ((x ^^^ x0 : Nat) : Int) = ((c ||| (x ^^^ x0) : Nat) : Int) := u64_or_nat c (x ^^^ x0) hcl hxx
      rw [Nat.add_zero] at hcx0
      clear hx hx0
      go_wp2
      go_roundw
      case rel => exact ⟨k + 1, by omega, by go_num, by rw [HST.out, HC.out, HH.out], trivial⟩
      case measure => simp [intOf]; omega
    · have hkn2 : k = n := by omega
      subst hkn2
      go_wp2
      go_ret
      exact ⟨ret_i (by rw [← HA.out, HC.out]), rfl⟩
end Go.Proofs.YtbdbpamefkgelaaGreatDoor
