/- Layer 19: keys: what makes a number of a number. -/
import Derived.Test.YtbdhibcbpgjbmaaGreatDoorNuA
import Derived.Test.YtbdhibcbpgjbmaaGreatDoorVaM
namespace Go.Proofs.YtbdhibcbpgjbmaaGreatDoor
set_option maxRecDepth 100000
open Go.RowKit Fl
set_option linter.unusedVariables false

def mxA (c x : Int) : Int := IntKind.u64.wrap (x + c)
def mxB (s c x : Int) : Int := IntKind.u64.wrap (bits .xor .u64 x (x / s) * c)
def mxI (x : Int) : Int := bits .xor .u64 (mxB 134217728 10723151780598845931 (mxB 1073741824 13787848793156543929 (mxA 11400714819323198485 x))) (mxB 134217728 10723151780598845931 (mxB 1073741824 13787848793156543929 (mxA 11400714819323198485 x)) / 2147483648)
/-- A word of any number. -/
def uN (y : Int) : Nat := (IntKind.u64.wrap y).toNat
theorem u64_wrap (y : Int) : IntKind.u64.wrap y = y % 18446744073709551616 := IntKind.wrap_u64 y
theorem uN_eq (y : Int) : (uN y : Int) = IntKind.u64.wrap y := by
 unfold uN
 rw [u64_wrap]
 omega
theorem uN_lt (y : Int) : uN y < 18446744073709551616 := by
 have := uN_eq y
 rw [u64_wrap] at this
 omega
theorem uN_nat {n : Nat} (h : n < 18446744073709551616) : uN (n : Int) = n := by
 have := uN_eq n
 rw [u64_wrap] at this
 omega
theorem mxI_nat (x : Nat) : ∃ n : Nat, n < 18446744073709551616 ∧ mxI (x : Int) = (n : Int) := by
 unfold mxI
 obtain ⟨m, hm⟩ : ∃ m, mxB 1073741824 13787848793156543929 (mxA 11400714819323198485 x) = m := ⟨_, rfl⟩
 rw [hm]
 unfold mxB
 rw [← uN_eq]
 obtain ⟨n, hn⟩ : ∃ n, uN (bits .xor .u64 m (m / 134217728) * 10723151780598845931) = n := ⟨_, rfl⟩
 have hl := uN_lt (bits .xor .u64 m (m / 134217728) * 10723151780598845931)
 rw [hn] at hl ⊢
 rw [show (n : Int) / 2147483648 = ((n / 2147483648 : Nat) : Int) by omega, u64_xor_nat n _ hl (by omega)]
 exact ⟨_, Nat.xor_lt_two_pow (n := 64) hl (by omega), rfl⟩
/-- Another number of a number. -/
def mxN (x : Nat) : Nat := (mxI (x : Int)).toNat
theorem mxN_eq (x : Nat) : (mxN x : Int) = mxI (x : Int) := by
 unfold mxN
 obtain ⟨n, _, e⟩ := mxI_nat x
 rw [e]; rfl
theorem mxN_lt (x : Nat) : mxN x < 18446744073709551616 := by
 unfold mxN
 obtain ⟨n, h, e⟩ := mxI_nat x
 rw [e]; exact h
/-- One key of two. -/
def joN (k n : Nat) : Nat := mxN (uN ((uN (31 * (k : Int)) : Int) + (n : Int)))
theorem joN_lt (k n : Nat) : joN k n < 18446744073709551616 := mxN_lt _

theorem hmixed_calls (x : Nat) (w : World) (hx : x < 18446744073709551616) : Calls Tryz.prog 54 #[.int .u64 (x : Int)] w fun e w' => e = .returned (.int .u64 (mxN x : Int)) ∧ w = w' := by
 rw [mxN_eq]
 go_enter Tryz.func54, Tryz.ntmps54
 go_wp2_with fail
 go_ret
 exact ⟨rfl, rfl⟩
theorem hjoined_calls (k n : Nat) (w : World) (hk : k < 18446744073709551616) (hn : n < 18446744073709551616) : Calls Tryz.prog 90 #[.int .u64 (k : Int), .int .u64 (n : Int)] w fun e w' => e = .returned (.int .u64 (joN k n : Int)) ∧ w = w' := by
 have HM := Lib.hid (hmixed_calls (uN ((uN (31 * (k : Int)) : Int) + (n : Int))) w (uN_lt _))
 rw [uN_eq, uN_eq] at HM
 go_enter Tryz.func90, Tryz.ntmps90
 go_wp2_with fail
 refine HM.out.mono ?_
 rintro e w' ⟨rfl, rfl⟩
 go_wp2
 go_ret
 exact ⟨rfl, rfl⟩
/-- The key of an item; of a plain array, boxes at most d in one another. -/
def kyI (t : PA → Nat) (x : PI) : Nat := if x.1 = 1 then mxN (uN x.2.2.1) else if x.1 = 2 then t (hd x.2.2.2) else mxN x.2.1
def kyS (k : Nat) (s : List Int) : Nat := s.foldl (fun k n => joN k (uN n)) k
def kyL (t : PA → Nat) (k : Nat) (l : List PI) : Nat := l.foldl (fun k x => joN k (kyI t x)) k
def kyP : Nat → PA → Nat
 | 0, _ => 0
 | d + 1, p => kyL (kyP d) (kyS (mxN (uN p.f)) p.s) p.l
theorem kyS_lt {s : List Int} : ∀ {k : Nat}, k < 18446744073709551616 → kyS k s < 18446744073709551616 := by
 induction s with
 | nil => intro k h; exact h
 | cons x s ih => intro k h; exact ih (joN_lt _ _)
theorem kyL_lt {t : PA → Nat} {l : List PI} : ∀ {k : Nat}, k < 18446744073709551616 → kyL t k l < 18446744073709551616 := by
 induction l with
 | nil => intro k h; exact h
 | cons x s ih => intro k h; exact ih (joN_lt _ _)
theorem kyP_lt (d : Nat) (p : PA) : kyP d p < 18446744073709551616 := by
 cases d with
 | zero => show 0 < 18446744073709551616; decide
 | succ d => exact kyL_lt (kyS_lt (mxN_lt _))
theorem kyI_lt (d : Nat) (x : PI) : kyI (kyP d) x < 18446744073709551616 := by
 unfold kyI
 split
 ·exact mxN_lt _
 ·split
  ·exact kyP_lt _ _
  ·exact mxN_lt _
theorem kyS_snoc (k : Nat) (s : List Int) (j : Nat) (h : j < s.length) : kyS k (s.take (j + 1)) = joN (kyS k (s.take j)) (uN s[j]) := by
 unfold kyS
 rw [List.take_succ_eq_append_getElem h, List.foldl_append, List.foldl_cons, List.foldl_nil]
theorem kyL_snoc (t : PA → Nat) (k : Nat) (s : List PI) (j : Nat) (h : j < s.length) : kyL t k (s.take (j + 1)) = joN (kyL t k (s.take j)) (kyI t s[j]) := by
 unfold kyL
 rw [List.take_succ_eq_append_getElem h, List.foldl_append, List.foldl_cons, List.foldl_nil]
end Go.Proofs.YtbdhibcbpgjbmaaGreatDoor
