/- Merged: PiM, PiA, PiW, PiB, PiN, PiC, PiE, PiF, PiG. -/
import Derived.Laws.Cover1
import Derived.Test.YtpcighgflolojaaGreatDoorMgVe1
import Derived.Test.YtpcighgflolojaaGreatDoorMgNu1
import Derived.Test.YtpcighgflolojaaGreatDoorMgBv1
import Derived.Test.YtpcighgflolojaaGreatDoorMgFo1
import Derived.Test.YtpcighgflolojaaGreatDoorMgSq1
import Derived.Test.YtpcighgflolojaaGreatDoorMgFl1
import Derived.Test.YtpcighgflolojaaGreatDoorMgVa1
/- Layer 15, plain: places that are turned, taken, dropped, copied, and picked along an axis. -/
namespace Go.Proofs.YtpcighgflolojaaGreatDoor
set_option maxRecDepth 100000
open Go.RowKit Fl
set_option linter.unusedVariables false

/-- What Rolled tells. -/
def rolF (n : Nat) (b : Int) (i : Nat) : Int := ((i : Int) + b) % (n : Int)
def rolL (n : Nat) (b : Int) : List Int := (List.range n).map (rolF n b)
theorem tmod_form (n : Nat) (b : Int) : ∃ q : Int, b = (n : Int) * q + b.tmod n := ⟨b.tdiv n, (Int.mul_tdiv_add_tmod b n).symm⟩
theorem rol_mod (n : Nat) (b : Int) (i : Nat) : rolF n b i = ((i : Int) + b.tmod n) % (n : Int) := by
  obtain ⟨q, hq⟩ := tmod_form n b
  unfold rolF
  generalize b.tmod n = r at hq
  subst hq
  rw [show (i : Int) + ((n : Int) * q + r) = (i : Int) + r + (n : Int) * q by omega, Int.add_mul_emod_self_left]
theorem rol_prog {n : Nat} {b : Int} (i : Nat) (hn : 0 < n) : ((i : Int) + (b.tmod n + n)).tmod n = rolF n b i := by
  have h2 := Int.lt_tmod_of_pos b (b := (n : Int)) (by omega)
  rw [rol_mod, Int.tmod_eq_emod_of_nonneg (by omega), ← Int.add_assoc, Int.add_emod_right]
/-- What Taken tells: from the first place on, or up to the last one. -/
def takA (n : Nat) (many : Int) : Int := if many < 0 then (n : Int) + many else 0
def takF (n : Nat) (many : Int) (i : Nat) : Int := if 0 ≤ takA n many + (i : Int) ∧ takA n many + (i : Int) < n then takA n many + (i : Int) else -1
def takL (n : Nat) (many : Int) : List Int := (List.range many.natAbs).map (takF n many)
theorem tak_len (n : Nat) (many : Int) : (takL n many).length = many.natAbs := by simp [takL]
/-- What Copies tells of the first k elements. -/
def cpR (c : Int) (i : Nat) : List Int := List.replicate c.natAbs (if c < 0 then -1 else (i : Int))
def cpTo (s : List Int) (k : Nat) : List Int := (List.range k).flatMap fun i => cpR (s.getD i 0) i
theorem cpTo_zero (s : List Int) : cpTo s 0 = [] := rfl
theorem cpTo_succ (s : List Int) (k : Nat) : cpTo s (k + 1) = cpTo s k ++ cpR (s.getD k 0) k := by
  unfold cpTo; rw [List.range_succ, List.flatMap_append]; simp
theorem cpTo_mono (s : List Int) {k n : Nat} (h : k ≤ n) : (cpTo s k).length ≤ (cpTo s n).length := by
  induction n with
  | zero => rw [Nat.le_zero.1 h]; exact Nat.le_refl _
  | succ n ih =>
    by_cases h2 : k = n + 1
    · rw [h2]; exact Nat.le_refl _
    · rw [cpTo_succ, List.length_append]; have := ih (by omega); omega
theorem cpR_len (c : Int) (i : Nat) : (cpR c i).length = c.natAbs := by simp [cpR]
/-- The counts, one for each of n elements. -/
def cpS (l : List Int) (n : Nat) : List Int := if l.length = n then l else List.replicate n (l.getD 0 0)
theorem cpS_same {l : List Int} {n : Nat} (h : l.length = n) : cpS l n = l := if_pos h
theorem cpS_one {l : List Int} {n : Nat} (h : l.length ≠ n) : cpS l n = List.replicate n (l.getD 0 0) := if_neg h
theorem cpS_len (l : List Int) (n : Nat) : (cpS l n).length = n := by unfold cpS; split <;> simp [*]
/-- What Copies tells of counts that are whole. -/
def cpEw (l : List Int) (n most : Nat) : Int := if l.length = n ∨ l.length = 1 then (if (cpTo (cpS l n) n).length ≤ most then 0 else 26) else 23
def cpLw (l : List Int) (n most : Nat) : List Int := if cpEw l n most = 0 then cpTo (cpS l n) n else []
def cpE (V : VV) (n most : Nat) : Int := if V.isWh = true then cpEw V.whs n most else 24
def cpL (V : VV) (n most : Nat) : List Int := if V.isWh = true then cpLw V.whs n most else []
theorem cpEw_23 {l : List Int} {n most : Nat} (h : ¬ (l.length = n ∨ l.length = 1)) : cpEw l n most = 23 ∧ cpLw l n most = [] := by
  have e : cpEw l n most = 23 := if_neg h
  exact ⟨e, by unfold cpLw; rw [e]; rfl⟩
theorem cpEw_26 {l : List Int} {n most : Nat} (h : l.length = n ∨ l.length = 1) (h2 : most < (cpTo (cpS l n) n).length) : cpEw l n most = 26 ∧ cpLw l n most = [] := by
  have e : cpEw l n most = 26 := by unfold cpEw; rw [if_pos h, if_neg (by omega)]
  exact ⟨e, by unfold cpLw; rw [e]; rfl⟩
theorem cpEw_0 {l : List Int} {n most : Nat} (h : l.length = n ∨ l.length = 1) (h2 : (cpTo (cpS l n) n).length ≤ most) : cpEw l n most = 0 ∧ cpLw l n most = cpTo (cpS l n) n := by
  have e : cpEw l n most = 0 := by unfold cpEw; rw [if_pos h, if_pos h2]
  exact ⟨e, by unfold cpLw; rw [e]; rfl⟩

/-- Along: the places in the vector. -/
def alF (n inner : Nat) (at_ : List Int) (k : Nat) : Int := if 0 ≤ at_.getD (k / inner % at_.length) 0 ∧ at_.getD (k / inner % at_.length) 0 < (n : Int) then (((k / inner / at_.length * n : Nat) : Int) + at_.getD (k / inner % at_.length) 0) * (inner : Int) + ((k % inner : Nat) : Int) else -1
def alZ (outer n inner : Nat) (at_ : List Int) : List Int := (List.range (outer * at_.length * inner)).map (alF n inner at_)
theorem alZ_len (outer n inner : Nat) (at_ : List Int) : (alZ outer n inner at_).length = outer * at_.length * inner := by simp [alZ]
/-- What the reference's Along tells at a place. -/
theorem alF_at {n inner m o i k : Nat} {at_ : List Int} (hm : at_.length = m) (hi : i < m) (hk : k < inner) : alF n inner at_ ((o * m + i) * inner + k) = if 0 ≤ at_.getD i 0 ∧ at_.getD i 0 < (n : Int) then (((o * n : Nat) : Int) + at_.getD i 0) * (inner : Int) + (k : Int) else -1 := by
  have h1 : ((o * m + i) * inner + k) / inner = o * m + i := by
    rw [Nat.mul_comm, Nat.mul_add_div (by omega), Nat.div_eq_of_lt hk, Nat.add_zero]
  have h2 : ((o * m + i) * inner + k) % inner = k := by
    rw [Nat.mul_comm, Nat.mul_add_mod, Nat.mod_eq_of_lt hk]
  have h3 : (o * m + i) % m = i := by rw [Nat.mul_comm, Nat.mul_add_mod, Nat.mod_eq_of_lt hi]
  have h4 : (o * m + i) / m = o := by rw [Nat.mul_comm, Nat.mul_add_div (by omega), Nat.div_eq_of_lt hi, Nat.add_zero]
  unfold alF
  rw [hm, h1, h2, h3, h4]
theorem al_in {n inner o outer k : Nat} {p : Int} (h0 : 0 ≤ p) (h1 : p < n) (ho : o < outer) (hk : k < inner) : ∃ j : Nat, (((o * n : Nat) : Int) + p) * (inner : Int) + (k : Int) = (j : Int) ∧ j < n * outer * inner ∧ j = (o * n + p.toNat) * inner + k := by
  obtain ⟨q, rfl⟩ := Int.eq_ofNat_of_zero_le h0
  refine ⟨(o * n + q) * inner + k, by simp, ?_, by simp⟩
  have h2 : q < n := by omega
  have h3 : o * n + q + 1 ≤ n * outer := by
    have : (o + 1) * n ≤ outer * n := Nat.mul_le_mul_right _ ho
    rw [Nat.add_mul, Nat.one_mul] at this
    rw [Nat.mul_comm n outer]; omega
  have h4 : (o * n + q + 1) * inner ≤ n * outer * inner := Nat.mul_le_mul_right _ h3
  rw [Nat.add_mul, Nat.one_mul] at h4
  omega
/-- A product that is within its bound. -/
theorem prod_div {a b c m : Nat} (h : a * b * c ≤ m) (hb : 0 < b) (hc : 0 < c) : a ≤ m / b / c := by
  rw [Nat.le_div_iff_mul_le hc, Nat.le_div_iff_mul_le hb]
  rw [Nat.mul_right_comm]; exact h
end Go.Proofs.YtpcighgflolojaaGreatDoor

/- Layer 15, walked: has, size, Rolled, Taken, Dropped, the program's and the reference's. -/
namespace Go.Proofs.YtpcighgflolojaaGreatDoor
set_option maxRecDepth 100000
open Go.RowKit Fl
set_option linter.unusedVariables false

theorem info_int3 : (Tryz.prog.info? 3).map (fun i => (i.zero, i.size, i.bytes)) = some (some (.int .i64 0), 1, 8) := by kernel_rfl
theorem run_mkI3 (n : Nat) (hn : n ≤ 2000000) (w : World) : (Instr.makeSlice 22 (.int .i64 (n : Int)) (.int .i64 (n : Int))).run Tryz.prog w = .ok (.slice (some ⟨w.heap.size, 0, none⟩) n n) (w.alloc (.cells (zerosV (.int .i64 0) n) 3)) := by
  obtain ⟨i0, hi, hz0, hz1, hz2⟩ := info_parts info_int3
  have hr := run_make (P := Tryz.prog) w 22 3 i0 _ Tryz.underlying22 hi hz0 .i64 .i64 n n (by omega) (Int.le_refl _) (by rw [hz2]; omega) (by omega)
  simp only [Int.toNat_natCast, hz1] at hr
  exact hr
theorem cell_one_newp (w : World) (x : Value) (t : TypeId) : ∀ (j : Nat) (u : Value), ([x] : List Value)[j]? = some u → (w.alloc (.cells #[x] t)).cell? ((⟨w.heap.size, 0, none⟩ : Addr).add j) = some u := by
  intro j u hj
  match j, hj with
  | 0, hj => simp at hj; subst hj; simp [Addr.add]
theorem one_intp (z : Int) : ∀ u ∈ ([.int .i64 z] : List Value), u.oneCell' = true := by intro u hu; simp at hu; subst hu; rfl
theorem phas_yes (n p : Int) (w : World) (h1 : 0 ≤ p) (h2 : p < n) : Calls Tryz.prog 24 #[.int .i64 n, .int .i64 p] w fun e w' => e = .returned (.bool true) ∧ w = w' := by
  go_enter Tryz.func24, Tryz.ntmps24
  go_wp2
  go_ret
  exact ⟨rfl, rfl⟩
theorem phas_no (n p : Int) (w : World) (h : ¬ (0 ≤ p ∧ p < n)) : Calls Tryz.prog 24 #[.int .i64 n, .int .i64 p] w fun e w' => e = .returned (.bool false) ∧ w = w' := by
  by_cases h1 : 0 ≤ p
  · have h2 : ¬ p < n := by omega
    clear h
    go_enter Tryz.func24, Tryz.ntmps24
    go_wp2
    go_ret
    exact ⟨rfl, rfl⟩
  · clear h
    go_enter Tryz.func24, Tryz.ntmps24
    go_wp2
    go_ret
    exact ⟨rfl, rfl⟩
theorem psize_calls (n : Int) (w : World) (h : -9223372036854775808 < n) (h2 : n ≤ 9223372036854775807) : Calls Tryz.prog 43 #[.int .i64 n] w fun e w' => e = .returned (.int .i64 (n.natAbs : Int)) ∧ w = w' := by
  by_cases h0 : n < 0
  · have h1 : n < -n := by omega
    have e : ((n.natAbs : Nat) : Int) = -n := by omega
    rw [e]
    go_enter Tryz.func43, Tryz.ntmps43
    go_wp2
    go_ret
    exact ⟨rfl, rfl⟩
  · have h1 : ¬ n < -n := by omega
    have e : ((n.natAbs : Nat) : Int) = n := by omega
    rw [e]
    go_enter Tryz.func43, Tryz.ntmps43
    go_wp2
    go_ret
    exact ⟨rfl, rfl⟩

set_option maxHeartbeats 4000000 in
theorem prolled_calls (n : Nat) (b : Int) (w : World) (hn : n ≤ 1048576) (hb1 : -9223372036854775808 ≤ b) (hb2 : b ≤ 9223372036854775807) :
    Calls Tryz.prog 22 #[.int .i64 (n : Int), .int .i64 b] w fun e w' => ∃ v, e = .returned v ∧ Slc w' (fun b => w.heap.size ≤ b) v (rolL n b).length (ints (rolL n b)) ∧ Below w.heap.size w w' := by
  by_cases h0 : n = 0
  · subst h0
    go_enter Tryz.func22, Tryz.ntmps22
    go_wp2
    go_ret
    exact ⟨_, rfl, Slc.nil _ _, Below.refl _ _⟩
  obtain ⟨r, hr⟩ : ∃ r, b.tmod (n : Int) = r := ⟨_, rfl⟩
  have hr1 : r < (n : Int) := hr ▸ Int.tmod_lt_of_pos b (by omega)
  have hr2 : -(n : Int) < r := hr ▸ Int.lt_tmod_of_pos b (by omega)
  have hn0 : ¬ (n : Int) < 1 := by omega
  have hn1 : ¬ (1048576 : Int) < (n : Int) := by omega
  have HRF := Lib.hid (show ∀ k : Nat, ((k : Int) + (r + (n : Int))).tmod (n : Int) = rolF n b k from fun k => hr ▸ rol_prog k (by omega))
  obtain ⟨xs, hxs⟩ : ∃ xs : List Value, xs = ints (rolL n b) := ⟨_, rfl⟩
  have hxl : xs.length = n := by rw [hxs]; simp [ints, rolL]
  have hget : ∀ k (h : k < xs.length), xs[k]'h = .int .i64 (rolF n b k) := by intro k h; simp [hxs, ints, rolL]
  rw [← hxs, show (rolL n b).length = n by simp [rolL]]
  have HX := Lib.hid hget
  have HXL := Lib.hid hxl
  have hmk := run_mkI3 n (by omega) w
  clear hxs hget hxl
  obtain ⟨W0, hW0⟩ : ∃ W0, W0 = w.alloc (.cells (zerosV (.int .i64 0) n) 3) := ⟨_, rfl⟩
  have HO0 : Hid (W0.ownsRow w.heap.size 3 1 (.slice (some ⟨w.heap.size, 0, none⟩) n n) n (List.replicate n (.int .i64 0))) := Lib.hid (by rw [hW0]; exact own_make1 _ _ _ (by omega) _ _ (Nat.le_refl _))
  have HW := Lib.hid (show Below w.heap.size w W0 by rw [hW0]; exact below_new _ _)
  go_enter Tryz.func22, Tryz.ntmps22
  go_wp2
  rw [← hW0]
  clear hW0 hmk
  go_loopw [23] (fun i wr => ∃ k : Nat, k ≤ n ∧ i = .int .i64 k ∧ wr.ownsRow w.heap.size 3 1 (.slice (some ⟨w.heap.size, 0, none⟩) n n) n (fillTo xs (.int .i64 0) k) ∧ W0.grownBy wr (some w.heap.size)) (fun i _ => n - (intOf i).toNat)
  case atStart => exact ⟨0, by omega, rfl, by rw [fillTo_zero, HXL.out]; exact HO0.out, grown_refl _ _⟩
  case round =>
    obtain ⟨k, hk, rfl, hown, hgr⟩ := hrel
    have HO := Lib.hid hown
    have HG := Lib.hid hgr
    have HB := Lib.hid (HW.out.grown hgr HW.out.size (fun j hj => by cases hj; omega))
    by_cases hlt : k < n
    · have hcw := owns_cell HO.out k (by rw [fillTo_len _ _ _ (by rw [HXL.out]; exact hk), HXL.out]; exact hlt)
      have hfr := World.ownsRow.frozenAt HO.out k
      have HXK := Lib.hid (HX.out k (by rw [HXL.out]; exact hlt))
      clear hown hgr
      have hq := HRF.out k
      go_wp2
      go_roundw
      case rel =>
        refine ⟨k + 1, by omega, by go_num, ?_, grown_trans HG.out (grown_setCell _ ⟨w.heap.size, k, none⟩ _)⟩
        have := (World.ownsRow.stored HO.out k (.int .i64 (rolF n b k))).1
        rw [← HXK.out, fillTo_set] at this
        rw [← HXK.out]
        exact this
      case measure => simp [intOf]; omega
    · have hkl : k = n := by omega
      have HK := Lib.hid hkl
      clear hown hgr hkl
      go_wp2
      go_ret
      refine ⟨_, rfl, ?_, HB.out⟩
      have := Slc.owned HO.out
      rwa [HK.out, ← HXL.out, fillTo_all, HXL.out] at this

set_option maxHeartbeats 4000000 in
theorem ptaken_own (n : Nat) (many : Int) (most : Nat) (w : World) (hn : n ≤ 1048576) (hm : many.natAbs ≤ most) (hmo : most ≤ 1048576) :
    Calls Tryz.prog 20 #[.int .i64 (n : Int), .int .i64 many, .int .i64 (most : Int)] w fun e w' => e = .returned (.tuple #[.slice (some ⟨w.heap.size, 0, none⟩) many.natAbs many.natAbs, .bool true]) ∧ w'.ownsRow w.heap.size 3 1 (.slice (some ⟨w.heap.size, 0, none⟩) many.natAbs many.natAbs) many.natAbs (ints (takL n many)) ∧ Below w.heap.size w w' := by
  obtain ⟨q, hq⟩ : ∃ q : Nat, many.natAbs = q := ⟨_, rfl⟩
  rw [hq]
  have h9 : ¬ (1048576 : Int) < (most : Int) := by omega
  have h1 : ¬ (most : Int) < 0 := by omega
  have h2 : ¬ (most : Int) < many := by omega
  have h3 : ¬ many < -(most : Int) := by omega
  by_cases hneg : many < 0
  · obtain ⟨f, hf⟩ : ∃ f, (n : Int) + many = f := ⟨_, rfl⟩
    have hf1 : -1048576 ≤ f := by omega
    have hf2 : f < (n : Int) := by omega
    have HF := Lib.hid (show ∀ k : Nat, takF n many k = if 0 ≤ f + (k : Int) ∧ f + (k : Int) < n then f + (k : Int) else -1 from fun k => by unfold takF; rw [show takA n many = f by rw [← hf]; exact if_pos hneg])
    obtain ⟨xs, hxs⟩ : ∃ xs : List Value, xs = ints (takL n many) := ⟨_, rfl⟩
    have hxl : xs.length = many.natAbs := by rw [hxs]; simp [ints, takL]
    have hget : ∀ k (h : k < xs.length), xs[k]'h = .int .i64 (takF n many k) := by intro k h; simp [hxs, ints, takL]
    rw [← hxs]
    have HX := Lib.hid hget
    rw [hq] at hxl
    have HXL := Lib.hid hxl
    have hmk := run_mkI3 q (by omega) w
    clear hxs hget hxl
    obtain ⟨W0, hW0⟩ : ∃ W0, W0 = w.alloc (.cells (zerosV (.int .i64 0) q) 3) := ⟨_, rfl⟩
    have HO0 : Hid (W0.ownsRow w.heap.size 3 1 (.slice (some ⟨w.heap.size, 0, none⟩) q q) q (List.replicate q (.int .i64 0))) := Lib.hid (by rw [hW0]; exact own_make1 _ _ _ (by omega) _ _ (Nat.le_refl _))
    have HW := Lib.hid (show Below w.heap.size w W0 by rw [hW0]; exact below_new _ _)
    go_enter Tryz.func20, Tryz.ntmps20
    go_wp2_with fail
    refine (psize_calls many _ (by omega) (by omega)).mono ?_
    rintro e w1 ⟨rfl, rfl⟩
    rw [hq]
    go_wp2_with fail
    rw [← hW0]
    clear hW0 hmk
    go_loopw [37] (fun i wr => ∃ k : Nat, k ≤ q ∧ i = .int .i64 k ∧ wr.ownsRow w.heap.size 3 1 (.slice (some ⟨w.heap.size, 0, none⟩) q q) q (fillTo xs (.int .i64 0) k) ∧ W0.grownBy wr (some w.heap.size)) (fun i _ => q - (intOf i).toNat)
    case atStart => exact ⟨0, by omega, rfl, by rw [fillTo_zero, HXL.out]; exact HO0.out, grown_refl _ _⟩
    case round =>
      obtain ⟨k, hk, rfl, hown, hgr⟩ := hrel
      have HO := Lib.hid hown
      have HG := Lib.hid hgr
      have HB := Lib.hid (HW.out.grown hgr HW.out.size (fun j hj => by cases hj; omega))
      by_cases hlt : k < q
      · have hcw := owns_cell HO.out k (by rw [fillTo_len _ _ _ (by rw [HXL.out]; exact hk), HXL.out]; exact hlt)
        have hfr := World.ownsRow.frozenAt HO.out k
        have HXK := Lib.hid (HX.out k (by rw [HXL.out]; exact hlt))
        clear hown hgr
        by_cases hin : 0 ≤ f + (k : Int) ∧ f + (k : Int) < n
        · have hi1 := hin.1
          have hi2 := hin.2
          have HKF := Lib.hid ((HF.out k).trans (if_pos hin))
          go_wp2_with fail
          refine (phas_yes _ _ _ hi1 hi2).mono ?_
          rintro e w1 ⟨rfl, rfl⟩
          obtain ⟨W1, hW1⟩ : ∃ W1, wr.setCell ⟨w.heap.size, k, none⟩ (.int .i64 (-1)) = W1 := ⟨_, rfl⟩
          rw [hW1]
          have HO1 := Lib.hid (show W1.ownsRow w.heap.size 3 1 (.slice (some ⟨w.heap.size, 0, none⟩) q q) q ((fillTo xs (.int .i64 0) k).set k (.int .i64 (-1))) by rw [← hW1]; exact (World.ownsRow.stored HO.out k (.int .i64 (-1))).1)
          have HG1 := Lib.hid (show W0.grownBy W1 (some w.heap.size) by rw [← hW1]; exact grown_trans HG.out (grown_setCell _ ⟨w.heap.size, k, none⟩ _))
          clear hcw hfr hW1
          have hcw := owns_cell HO1.out k (by rw [List.length_set, fillTo_len _ _ _ (by rw [HXL.out]; exact hk), HXL.out]; exact hlt)
          have hfr := World.ownsRow.frozenAt HO1.out k
          go_wp2
          go_roundw
          case rel =>
            refine ⟨k + 1, by omega, by go_num, ?_, grown_trans HG1.out (grown_setCell _ ⟨w.heap.size, k, none⟩ _)⟩
            rw [HKF.out] at HXK
            have := (World.ownsRow.stored HO1.out k (.int .i64 (f + (k : Int)))).1
            rw [List.set_set, ← HXK.out, fillTo_set] at this
            rw [← HXK.out]
            exact this
          case measure => simp [intOf]; omega
        · have HKF := Lib.hid ((HF.out k).trans (if_neg hin))
          go_wp2_with fail
          refine (phas_no _ _ _ hin).mono ?_
          rintro e w1 ⟨rfl, rfl⟩
          go_wp2
          go_roundw
          case rel =>
            refine ⟨k + 1, by omega, by go_num, ?_, grown_trans HG.out (grown_setCell _ ⟨w.heap.size, k, none⟩ _)⟩
            rw [HKF.out] at HXK
            have := (World.ownsRow.stored HO.out k (.int .i64 (-1))).1
            rw [← HXK.out, fillTo_set] at this
            rw [← HXK.out]
            exact this
          case measure => simp [intOf]; omega
      · have hkl : k = q := by omega
        have HK := Lib.hid hkl
        clear hown hgr hkl
        go_wp2
        go_ret2
        refine ⟨rfl, ?_, HB.out⟩
        have := HO.out
        rwa [HK.out, ← HXL.out, fillTo_all, HXL.out] at this
  · have HF := Lib.hid (show ∀ k : Nat, takF n many k = if 0 ≤ (k : Int) ∧ (k : Int) < n then (k : Int) else -1 from fun k => by unfold takF; rw [show takA n many = 0 from if_neg hneg, Int.zero_add])
    obtain ⟨xs, hxs⟩ : ∃ xs : List Value, xs = ints (takL n many) := ⟨_, rfl⟩
    have hxl : xs.length = many.natAbs := by rw [hxs]; simp [ints, takL]
    have hget : ∀ k (h : k < xs.length), xs[k]'h = .int .i64 (takF n many k) := by intro k h; simp [hxs, ints, takL]
    rw [← hxs]
    have HX := Lib.hid hget
    rw [hq] at hxl
    have HXL := Lib.hid hxl
    have hmk := run_mkI3 q (by omega) w
    clear hxs hget hxl
    obtain ⟨W0, hW0⟩ : ∃ W0, W0 = w.alloc (.cells (zerosV (.int .i64 0) q) 3) := ⟨_, rfl⟩
    have HO0 : Hid (W0.ownsRow w.heap.size 3 1 (.slice (some ⟨w.heap.size, 0, none⟩) q q) q (List.replicate q (.int .i64 0))) := Lib.hid (by rw [hW0]; exact own_make1 _ _ _ (by omega) _ _ (Nat.le_refl _))
    have HW := Lib.hid (show Below w.heap.size w W0 by rw [hW0]; exact below_new _ _)
    go_enter Tryz.func20, Tryz.ntmps20
    go_wp2_with fail
    refine (psize_calls many _ (by omega) (by omega)).mono ?_
    rintro e w1 ⟨rfl, rfl⟩
    rw [hq]
    go_wp2_with fail
    rw [← hW0]
    clear hW0 hmk
    go_loopw [37] (fun i wr => ∃ k : Nat, k ≤ q ∧ i = .int .i64 k ∧ wr.ownsRow w.heap.size 3 1 (.slice (some ⟨w.heap.size, 0, none⟩) q q) q (fillTo xs (.int .i64 0) k) ∧ W0.grownBy wr (some w.heap.size)) (fun i _ => q - (intOf i).toNat)
    case atStart => exact ⟨0, by omega, rfl, by rw [fillTo_zero, HXL.out]; exact HO0.out, grown_refl _ _⟩
    case round =>
      obtain ⟨k, hk, rfl, hown, hgr⟩ := hrel
      have HO := Lib.hid hown
      have HG := Lib.hid hgr
      have HB := Lib.hid (HW.out.grown hgr HW.out.size (fun j hj => by cases hj; omega))
      by_cases hlt : k < q
      · have hcw := owns_cell HO.out k (by rw [fillTo_len _ _ _ (by rw [HXL.out]; exact hk), HXL.out]; exact hlt)
        have hfr := World.ownsRow.frozenAt HO.out k
        have HXK := Lib.hid (HX.out k (by rw [HXL.out]; exact hlt))
        clear hown hgr
        by_cases hin : 0 ≤ (k : Int) ∧ (k : Int) < n
        · have hi1 := hin.1
          have hi2 := hin.2
          have HKF := Lib.hid ((HF.out k).trans (if_pos hin))
          go_wp2_with fail
          refine (phas_yes _ _ _ hi1 hi2).mono ?_
          rintro e w1 ⟨rfl, rfl⟩
          obtain ⟨W1, hW1⟩ : ∃ W1, wr.setCell ⟨w.heap.size, k, none⟩ (.int .i64 (-1)) = W1 := ⟨_, rfl⟩
          rw [hW1]
          have HO1 := Lib.hid (show W1.ownsRow w.heap.size 3 1 (.slice (some ⟨w.heap.size, 0, none⟩) q q) q ((fillTo xs (.int .i64 0) k).set k (.int .i64 (-1))) by rw [← hW1]; exact (World.ownsRow.stored HO.out k (.int .i64 (-1))).1)
          have HG1 := Lib.hid (show W0.grownBy W1 (some w.heap.size) by rw [← hW1]; exact grown_trans HG.out (grown_setCell _ ⟨w.heap.size, k, none⟩ _))
          clear hcw hfr hW1
          have hcw := owns_cell HO1.out k (by rw [List.length_set, fillTo_len _ _ _ (by rw [HXL.out]; exact hk), HXL.out]; exact hlt)
          have hfr := World.ownsRow.frozenAt HO1.out k
          go_wp2
          go_roundw
          case rel =>
            refine ⟨k + 1, by omega, by go_num, ?_, grown_trans HG1.out (grown_setCell _ ⟨w.heap.size, k, none⟩ _)⟩
            rw [HKF.out] at HXK
            have := (World.ownsRow.stored HO1.out k (.int .i64 ((k : Int)))).1
            rw [List.set_set, ← HXK.out, fillTo_set] at this
            rw [← HXK.out]
            exact this
          case measure => simp [intOf]; omega
        · have HKF := Lib.hid ((HF.out k).trans (if_neg hin))
          go_wp2_with fail
          refine (phas_no _ _ _ hin).mono ?_
          rintro e w1 ⟨rfl, rfl⟩
          go_wp2
          go_roundw
          case rel =>
            refine ⟨k + 1, by omega, by go_num, ?_, grown_trans HG.out (grown_setCell _ ⟨w.heap.size, k, none⟩ _)⟩
            rw [HKF.out] at HXK
            have := (World.ownsRow.stored HO.out k (.int .i64 (-1))).1
            rw [← HXK.out, fillTo_set] at this
            rw [← HXK.out]
            exact this
          case measure => simp [intOf]; omega
      · have hkl : k = q := by omega
        have HK := Lib.hid hkl
        clear hown hgr hkl
        go_wp2
        go_ret2
        refine ⟨rfl, ?_, HB.out⟩
        have := HO.out
        rwa [HK.out, ← HXL.out, fillTo_all, HXL.out] at this
theorem ptaken_yes (n : Nat) (many : Int) (most : Nat) (w : World) (hn : n ≤ 1048576) (hm : many.natAbs ≤ most) (hmo : most ≤ 1048576) :
    Calls Tryz.prog 20 #[.int .i64 (n : Int), .int .i64 many, .int .i64 (most : Int)] w fun e w' => ∃ v, e = .returned (.tuple #[v, .bool true]) ∧ Slc w' (fun b => w.heap.size ≤ b) v (takL n many).length (ints (takL n many)) ∧ Below w.heap.size w w' := by
  refine (ptaken_own n many most w hn hm hmo).mono ?_
  rintro e w1 ⟨rfl, h, hB⟩
  exact ⟨_, rfl, by rw [tak_len]; exact Slc.owned h, hB⟩
end Go.Proofs.YtpcighgflolojaaGreatDoor

/- Layer 15, walked: slices.Repeat of one whole number. -/
namespace Go.Proofs.YtpcighgflolojaaGreatDoor
set_option maxRecDepth 100000
open Go.RowKit
set_option linter.unusedVariables false

/-- A row of c cells, the first n of them x. -/
def repI (x : Int) (c n : Nat) : List Value := List.replicate n (.int .i64 x) ++ List.replicate (c - n) (.int .i64 0)
theorem repI_len (x : Int) (c n : Nat) (h : n ≤ c) : (repI x c n).length = c := by simp [repI]; omega
theorem repI_full (x : Int) (c : Nat) : repI x c c = List.replicate c (.int .i64 x) := by simp [repI]
theorem repI_zero (x : Int) (c : Nat) : repI x c 0 = List.replicate c (.int .i64 0) := by simp [repI]
theorem repI_splice (x : Int) (c n k : Nat) (h : n + k ≤ c) : splice (repI x c n) n (List.replicate k (.int .i64 x)) = repI x c (n + k) := by
  unfold splice repI
  rw [List.take_left' (by simp), List.length_replicate, ← List.append_assoc, List.replicate_append_replicate, List.drop_append, List.drop_eq_nil_of_le (by simp), List.nil_append, List.drop_replicate]
  congr 2
  simp; omega
theorem repI_get (x : Int) (c n : Nat) {j : Nat} (hj : j < n) : (repI x c n)[j]? = some (.int .i64 x) := by
  unfold repI
  rw [List.getElem?_append_left (by simpa using hj), List.getElem?_replicate, if_pos hj]
set_option maxHeartbeats 4000000 in
theorem srepeatI_calls {ok : Nat → Prop} (v : Value) (x : Int) (c : Nat) (w : World) (hv : Slc w ok v 1 [.int .i64 x]) (hc : c ≤ 1048576) :
    Calls Tryz.prog 41 #[v, .int .i64 (c : Int)] w fun e w' => ∃ v', e = .returned v' ∧ Slc w' (fun b => w.heap.size ≤ b) v' c (List.replicate c (.int .i64 x)) ∧ Below w.heap.size w w' := by
  obtain ⟨ao, cap, rfl, h1, h2, h3, h4⟩ := hv.opened
  obtain ⟨b, off, rfl, hok, hx⟩ := h4 0 (by simp)
  simp only [Nat.add_zero, List.getElem_cons_zero] at hx
  have HX := Lib.hid hx
  have HC := Lib.hid hc
  have hmk := run_mkI1 c (by omega) w
  obtain ⟨i0, hi, hz0, hz1, hz2⟩ := info_parts info_i64
  have HSZ := Lib.hid (show (Tryz.prog.info? 2).map (·.size) = some 1 by rw [hi]; simp [hz1])
  clear hi hz0 hz1 hz2
  obtain ⟨W0, hW0⟩ : ∃ W0, W0 = w.alloc (.cells (zerosV (.int .i64 0) c) 2) := ⟨_, rfl⟩
  have HB0 := Lib.hid (show Below w.heap.size w W0 by rw [hW0]; exact below_new _ _)
  have HG0 := Lib.hid (show W0.heap[w.heap.size]? = some (.cells (repI x c 0).toArray 2 (0, 0)) by
    have e : zerosV (.int .i64 0) c = (List.replicate c (Value.int .i64 0)).toArray := Array.toList_inj.1 (by rw [zerosV, toList_madeCells_one]; simp)
    rw [hW0, repI_zero, e]
    simp only [World.alloc, Array.getElem?_push_size])
  have HX0 := Lib.hid (keep_below HB0.out _ _ HX.out)
  obtain ⟨k, hk⟩ : ∃ k, Nat.min 1 c = k := ⟨_, rfl⟩
  have hkc : k ≤ c := by rw [← hk]; exact Nat.min_le_right _ _
  have HK1 := Lib.hid (show k ≤ 1 by rw [← hk]; exact Nat.min_le_left _ _)
  have HKC := Lib.hid (show 0 < c → 0 < k by intro h; rw [← hk]; show 0 < min 1 c; omega)
  obtain ⟨cs, hcs⟩ : ∃ cs : List Value, List.replicate k (.int .i64 x) = cs := ⟨_, rfl⟩
  have HCL := Lib.hid (show cs.length = Nat.min 1 c by rw [← hcs, List.length_replicate, hk])
  have HCE := Lib.hid (show cs.length = k by rw [← hcs, List.length_replicate])
  have HCQ := Lib.hid (show ∀ (j : Nat) (u : Value), cs[j]? = some u → W0.cell? ⟨b, off + j, none⟩ = some u by
    intro j u hj
    obtain ⟨h9, h8⟩ := List.getElem?_eq_some_iff.1 hj
    have hj0 : j = 0 := by rw [← hcs, List.length_replicate] at h9; have := HK1.out; omega
    subst hj0
    have : u = .int .i64 x := by rw [← h8]; simp [← hcs]
    rw [this]
    exact HX0.out)
  have HCF := Lib.hid (show 0 + cs.length ≤ (repI x c 0).length by rw [HCE.out, repI_len x c 0 (by omega)]; omega)
  have HC1 := Lib.hid (show ∀ u ∈ cs, u.oneCell' = true by rw [← hcs]; intro u hu; rw [(List.mem_replicate.1 hu).2]; rfl)
  have HSP := Lib.hid (show splice (repI x c 0) 0 cs = repI x c k by rw [← hcs]; have := repI_splice x c 0 k (by omega); rwa [Nat.zero_add] at this)
  clear hv h1 h2 h3 h4 hok hx hcs hk
  have hfold := hW0.symm
  clear hW0
  go_enter Tryz.func41, Tryz.ntmps41
  go_wp2_with (first | ((with_reducible refine (bmul_calls c HC.out _).mono ?_); rintro e w' ⟨rfl, rfl⟩) | ((with_reducible show wpList _ _ _ ({ dst := some 33, op := _, type := _, pos := _, after := _, guard := _ } :: _) _ _); go_must (refine wpList_copy_splice rfl (.tmp 31) (.tmp 32) 70 70 rfl 2 Tryz.underlying70 HSZ.out _ _ c c 1 cap rfl rfl w.heap.size 0 (repI x c 0) 2 HG0.out cs HCL.out (fun _ => ⟨rfl, _, rfl, fun j u hj => add_cell (HCQ.out j u hj)⟩) HCF.out HC1.out w.heap.size w HB0.out (Nat.le_refl _) ?_)))
  intro w2 HG2 hB2
  rw [HCE.out]
  rw [HSP.out] at HG2
  have HB2 := Lib.hid hB2
  clear hB2 hfold hmk
  clear HX0 HCQ HCF HC1 HCL HCE
  go_wp2
  go_loopw [8] (fun nn wr => ∃ n : Nat, n ≤ c ∧ (0 < c → 0 < n) ∧ nn = .int .i64 n ∧ Hid (wr.heap[w.heap.size]? = some (.cells (repI x c n).toArray 2 (0, 0))) ∧ Below w.heap.size w wr) (fun nn _ => c - (intOf nn).toNat)
  case atStart => exact ⟨k, hkc, HKC.out, rfl, HG2, HB2.out⟩
  case round =>
    obtain ⟨n, hn, hpos, rfl, HG, hB⟩ := hrel
    have HB := Lib.hid hB
    have HP := Lib.hid hpos
    clear hB hpos
    by_cases hlt : n < c
    · obtain ⟨q, hq⟩ : ∃ q, Nat.min n (c - n) = q := ⟨_, rfl⟩
      have hn0 : 0 < n := HP.out (by omega)
      have hq0 : 0 < q := by rw [← hq]; show 0 < min n (c - n); omega
      have hqc : n + q ≤ c := by have : q ≤ c - n := by rw [← hq]; exact Nat.min_le_right _ _
                                 omega
      obtain ⟨cs2, hcs⟩ : ∃ cs2 : List Value, List.replicate q (.int .i64 x) = cs2 := ⟨_, rfl⟩
      have HCE := Lib.hid (show cs2.length = q by rw [← hcs, List.length_replicate])
      have HCQ := Lib.hid (show ∀ (j : Nat) (u : Value), cs2[j]? = some u → wr.cell? ⟨w.heap.size, 0 + j, none⟩ = some u by
        intro j u hj
        obtain ⟨h9, h8⟩ := List.getElem?_eq_some_iff.1 hj
        have hjq : j < q := by rw [← hcs, List.length_replicate] at h9; exact h9
        have : u = .int .i64 x := by rw [← h8]; simp [← hcs]
        rw [this, Nat.zero_add]
        exact row_cell HG.out (repI_get x c n (by have : q ≤ n := (by rw [← hq]; exact Nat.min_le_left _ _); omega)))
      have HS0 := Lib.hid (show wr.cell? ⟨w.heap.size, 0, none⟩ = some (.int .i64 x) from row_cell HG.out (repI_get x c n hn0))
      have HC1 := Lib.hid (show ∀ u ∈ cs2, u.oneCell' = true by rw [← hcs]; intro u hu; rw [(List.mem_replicate.1 hu).2]; rfl)
      have HSP := Lib.hid (show splice (repI x c n) n cs2 = repI x c (n + q) by rw [← hcs]; exact repI_splice x c n q hqc)
      have HHQ := Lib.hid hq
      obtain ⟨e, he⟩ : ∃ e, c - n = e := ⟨_, rfl⟩
      have HQE := Lib.hid (show cs2.length = Nat.min n e by rw [HCE.out, ← he, hq])
      have HCF := Lib.hid (show n + cs2.length ≤ (repI x c n).length by rw [HCE.out, repI_len x c n hn]; exact hqc)
      clear hcs hq
      go_wp2_with fail
      --TREE
      have hcn : (c = n) = False := eq_false (by omega)
      have HGO := Lib.hid HG.out
      have HBW := Lib.hid HB.out
      obtain ⟨W11, hWD⟩ : ∃ xw9, wr.drew = xw9 := ⟨_, rfl⟩
      have hB : Below wr.heap.size wr W11 := by rw [← hWD]; exact Below.drewN' (Below.refl _ _) 1
      replace HS0 := Lib.hid (keep_below hB _ _ HS0.out)
      replace HB := Lib.hid (HB.out.trans (hB.mono HB.out.size))
      replace HG := Lib.hid ((hB.block _ (lt_heap HG.out)).trans HG.out)
      replace HCQ := Lib.hid (fun j u hj => keep_below hB _ _ (HCQ.out j u hj))
      clear hB
      refine wp_region_held_drew (S := fun w' => w'.cell? ⟨w.heap.size, 0, none⟩ = some (.int .i64 x)) (by kernel_rfl) (by rw [hWD]; exact HS0.out) (fun hHeld => ?_)
      rw [hWD] at hHeld ⊢
      clear hWD
      refine wpAnyH_take (i := 0) (v := ?_) rfl (by kernel_rfl) (by kernel_rfl) (by kernel_rfl) (fun _ _ _ h => h) (Or.inl ⟨by rfl, ?_⟩) (by assumption) ?_
      rotate_left
      · (intro w hSw; (try dsimp only at hSw); go_simp; try with_reducible rfl)
      simp only [Act.put, List.getElem_toArray, List.getElem_cons_zero, List.setIfInBounds_toArray, List.set_cons_zero, List.set_cons_succ]
      refine wpAnyH_take (i := 1) (v := ?_) rfl (by kernel_rfl) (by kernel_rfl) (by kernel_rfl) (fun _ _ _ h => h) (Or.inl ⟨by rfl, ?_⟩) (by assumption) ?_
      rotate_left
      · (intro w hSw; (try dsimp only at hSw); go_simp; try with_reducible rfl)
      simp only [Act.put, List.getElem_toArray, List.getElem_cons_succ, List.getElem_cons_zero, List.setIfInBounds_toArray, List.set_cons_zero, List.set_cons_succ]
      refine wpAnyH_take (i := 2) (v := ?_) rfl (by kernel_rfl) (by kernel_rfl) (by kernel_rfl) (fun _ _ _ h => h) (Or.inl ⟨by rfl, ?_⟩) (by assumption) ?_
      rotate_left
      · (intro w hSw; (try dsimp only at hSw); go_simp; try with_reducible rfl)
      simp only [Act.put, List.getElem_toArray, List.getElem_cons_succ, List.getElem_cons_zero, List.setIfInBounds_toArray, List.set_cons_zero, List.set_cons_succ]
      refine wpAnyH_take (i := 3) (v := ?_) rfl (by kernel_rfl) (by kernel_rfl) (by kernel_rfl) (fun _ _ _ h => h) (Or.inl ⟨by rfl, ?_⟩) (by assumption) ?_
      rotate_left
      · (intro w hSw; (try dsimp only at hSw); go_simp; try with_reducible rfl)
      simp only [Act.put, List.getElem_toArray, List.getElem_cons_succ, List.getElem_cons_zero, List.setIfInBounds_toArray, List.set_cons_zero, List.set_cons_succ]
      refine wpAnyH_take (i := 4) (v := ?_) rfl (by kernel_rfl) (by kernel_rfl) (by kernel_rfl) (fun _ _ _ h => h) (Or.inl ⟨by rfl, ?_⟩) (by assumption) ?_
      rotate_left
      · (intro w hSw; (try dsimp only at hSw); go_simp; try with_reducible rfl)
      simp only [Act.put, List.getElem_toArray, List.getElem_cons_succ, List.getElem_cons_zero, List.setIfInBounds_toArray, List.set_cons_zero, List.set_cons_succ]
      refine wpAnyH_take (i := 5) (v := ?_) rfl (by kernel_rfl) (by kernel_rfl) (by kernel_rfl) (fun _ _ _ h => h) (Or.inl ⟨by rfl, ?_⟩) (by assumption) ?_
      rotate_left
      · (intro w hSw; (try dsimp only at hSw); go_simp; try with_reducible rfl)
      simp only [Act.put, List.getElem_toArray, List.getElem_cons_succ, List.getElem_cons_zero, List.setIfInBounds_toArray, List.set_cons_zero, List.set_cons_succ]
      refine wpAnyH_take (i := 6) (v := ?_) rfl (by kernel_rfl) (by kernel_rfl) (by kernel_rfl) (fun _ _ _ h => h) (Or.inl ⟨by rfl, ?_⟩) (by assumption) ?_
      rotate_left
      · (intro w hSw; (try dsimp only at hSw); go_simp; try with_reducible rfl)
      simp only [Act.put, List.getElem_toArray, List.getElem_cons_succ, List.getElem_cons_zero, List.setIfInBounds_toArray, List.set_cons_zero, List.set_cons_succ]
      refine wpAnyH_ready (rs := [7]) (by kernel_rfl) (by simp) ?_
      refine AllReadyH.cons (o := _) rfl (fun K hK => ?_) ?_
      · clear hHeld
        refine step_copy_splice rfl (.tmp 41) (.tmp 44) 70 70 rfl 2 Tryz.underlying70 HSZ.out (some ⟨w.heap.size, n, none⟩) (some ⟨w.heap.size, 0, none⟩) e e n c rfl rfl w.heap.size n (repI x c n) 2 HG.out cs2 HQE.out (fun _ => ⟨rfl, _, rfl, fun j u hj => add_cell (HCQ.out j u hj)⟩) HCF.out HC1.out w.heap.size w HB.out (Nat.le_refl _) ?_
        intro w4 HG4 hB4
        rw [HSP.out] at HG4
        rw [HCE.out]
        have HB4 := Lib.hid hB4
        have HS4 := Lib.hid (show w4.cell? ⟨w.heap.size, 0, none⟩ = some (.int .i64 x) from row_cell HG4.out (repI_get x c (n + q) (by omega)))
        clear hB4
        refine hK.out _ _ ?_ (fun hHeld => ?_)
        · exact HS4.out
        clear hK K
        refine wpAnyH_take (i := 8) (v := ?_) rfl (by kernel_rfl) (by kernel_rfl) (by kernel_rfl) (fun _ _ _ h => h) (Or.inl ⟨by rfl, ?_⟩) (by assumption) ?_
        rotate_left
        · (intro w hSw; (try dsimp only at hSw); go_simp; try with_reducible rfl)
        simp only [Act.put, List.getElem_toArray, List.getElem_cons_succ, List.getElem_cons_zero, List.setIfInBounds_toArray, List.set_cons_zero, List.set_cons_succ]
        refine wpAnyH_take (i := 9) (v := ?_) rfl (by kernel_rfl) (by kernel_rfl) (by kernel_rfl) (fun _ _ _ h => h) (Or.inl ⟨by rfl, ?_⟩) (by assumption) ?_
        rotate_left
        · (intro w hSw; (try dsimp only at hSw); go_simp; try with_reducible rfl)
        simp only [Act.put, List.getElem_toArray, List.getElem_cons_succ, List.getElem_cons_zero, List.setIfInBounds_toArray, List.set_cons_zero, List.set_cons_succ]
        refine wpAnyH_done (by kernel_rfl) ?_ _
        clear hHeld
        have hw : IntKind.i64.wrap ((n : Int) + (q : Int)) = ((n + q : Nat) : Int) := by rw [IntWalk.i64_in _ (by omega)]; omega
        go_wp2
        go_roundw
        case rel => exact ⟨n + q, hqc, fun _ => by omega, congrArg (Value.int .i64) (by rw [IntWalk.i64_in _ (by omega)]; omega), HG4, HB4.out⟩
        case measure => simp [intOf]; omega
      exact AllReadyH.nil
      --END
    · have hnc : n = c := by omega
      have HL := Lib.hid (show Slc wr (fun b => w.heap.size ≤ b) (.slice (some ⟨w.heap.size, 0, none⟩) c c) c (List.replicate c (.int .i64 x)) by
        rw [hnc, repI_full] at HG
        refine ⟨⟨by simp, _, _, rfl, fun i hi => ⟨_, _, rfl, Nat.le_refl _, ?_⟩⟩, _, _, rfl, Nat.le_refl _, by have := HC.out; unfold maxLen; omega⟩
        rw [Nat.zero_add]
        exact row_cell HG.out (List.getElem?_eq_getElem hi))
      clear hnc
      go_wp2
      go_ret
      exact ⟨_, rfl, HL.out, HB.out⟩
end Go.Proofs.YtpcighgflolojaaGreatDoor

/- Layer 15, walked: integers, fit, Copies. -/
namespace Go.Proofs.YtpcighgflolojaaGreatDoor
set_option maxRecDepth 100000
open Go.RowKit Fl
set_option linter.unusedVariables false

set_option maxHeartbeats 4000000 in
theorem pintegers_calls {ok : Nat → Prop} (u : Value) (V : VV) (w : World) (h : IsV w ok u V) (hok : V.ok) (hE : V.kind = 4 → V.len ≠ 0) (hT : TabAt w) :
    Calls Tryz.prog 40 #[.agg #[u]] w fun e w' => ∃ v, e = .returned (.tuple #[v, .bool V.isWh]) ∧ Slc w' (fun b => w.heap.size ≤ b) v V.whs.length (ints V.whs) ∧ Below w.heap.size w w' := by
  obtain ⟨q, hq⟩ : ∃ q, V.isWh = q := ⟨_, rfl⟩
  rw [hq]
  have HQ := Lib.hid hq
  clear hq
  have hsu := h.store
  have HOK := Lib.hid hok
  have HE := Lib.hid hE
  obtain ⟨W1, hW1⟩ : ∃ W1, W1 = w.alloc (.cells #[u] 30) := ⟨_, rfl⟩
  have HB := Lib.hid (show Below w.heap.size w W1 by rw [hW1]; exact below_new _ _)
  have HA := Lib.hid (show At1 W1 w.heap.size u by rw [hW1]; exact At1.new w _ _)
  have HU := Lib.hid (show IsV W1 ok u V from h.grow HB.out)
  have HT := Lib.hid (show TabAt W1 from fun j hj => keep_below HB.out _ _ (hT j hj))
  have hfold := hW1.symm
  clear h hok hE hT hW1
  have cHA0 := HA.out.2.1
  go_enter Tryz.func40, Tryz.ntmps40
  go_wp2_with fail
  clear hfold
  have HBW := Lib.hid HB.out.size
  refine (vwholes_calls _ V _ HU.out HOK.out HT.out).mono ?_
  rintro e W11 ⟨v, rfl, hv, hB⟩
  clear cHA0
  replace HB := Lib.hid (HB.out.trans (hB.mono HB.out.size))
  replace HT := Lib.hid (fun j hj => keep_below hB _ _ (HT.out j hj))
  replace HU := Lib.hid (HU.out.grow hB)
  replace HA := Lib.hid (HA.out.below hB)
  have HV := Lib.hid (hv.keep (ok' := fun b => w.heap.size ≤ b) (Kept.refl _ _) (fun b _ hb => Nat.le_trans (HBW.out) hb))
  clear hv
  clear hB
  obtain ⟨ao, cap, rfl, _⟩ := HV.out.opened
  rw [HQ.out]
  cases q
  · have cHA0 := HA.out.2.1
    go_wp2_with fail
    refine (kind_calls _ V _ HU.out).mono ?_
    rintro e W12 ⟨rfl, hB⟩
    clear cHA0
    replace HB := Lib.hid (HB.out.trans (hB.mono HB.out.size))
    replace HT := Lib.hid (fun j hj => keep_below hB _ _ (HT.out j hj))
    replace HU := Lib.hid (HU.out.grow hB)
    replace HA := Lib.hid (HA.out.below hB)
    replace HV := Lib.hid (HV.out.below hB)
    clear hB
    obtain ⟨kd, hkd⟩ : ∃ kd, V.kind = kd := ⟨_, rfl⟩
    rw [hkd]
    have HKD := Lib.hid hkd
    clear hkd
    by_cases h4 : kd = 4
    · have hc4 : (kd == 4) = true := by simpa using h4
      have HNL := Lib.hid (HE.out (HKD.out.trans h4))
      clear h4
      have cHA0 := HA.out.2.1
      go_wp2_with fail
      refine (vlen_calls _ V _ HU.out).mono ?_
      rintro e W13 ⟨rfl, hB⟩
      clear cHA0
      replace HB := Lib.hid (HB.out.trans (hB.mono HB.out.size))
      replace HT := Lib.hid (fun j hj => keep_below hB _ _ (HT.out j hj))
      replace HU := Lib.hid (HU.out.grow hB)
      replace HA := Lib.hid (HA.out.below hB)
      replace HV := Lib.hid (HV.out.below hB)
      clear hB
      obtain ⟨n, hn⟩ : ∃ n, V.len = n := ⟨_, rfl⟩
      rw [hn]
      have hn0 : ((n : Int) == 0) = false := by have := HNL.out; simp; omega
      clear hn
      have cHA0 := HA.out.2.1
      go_wp2_with fail
      go_ret2
      exact ⟨.slice ao V.whs.length cap, rfl, HV.out, HB.out⟩
    have hc4 : (kd == 4) = false := by simpa using h4
    clear h4
    have cHA0 := HA.out.2.1
    go_wp2_with fail
    go_ret2
    exact ⟨.slice ao V.whs.length cap, rfl, HV.out, HB.out⟩
  · have cHA0 := HA.out.2.1
    go_wp2_with fail
    go_ret2
    exact ⟨.slice ao V.whs.length cap, rfl, HV.out, HB.out⟩

theorem mem_at {l : List Int} {k : Nat} {x : Int} (h : l[k]? = some x) : x ∈ l := by
  obtain ⟨h1, h2⟩ := List.getElem?_eq_some_iff.1 h
  rw [← h2]; exact List.getElem_mem h1
theorem getD_at {l : List Int} {k : Nat} {x : Int} (h : l[k]? = some x) : l.getD k 0 = x := by rw [List.getD_eq_getElem?_getD, h]; rfl
set_option maxHeartbeats 4000000 in
theorem pfit_calls {ok : Nat → Prop} (v : Value) (l : List Int) (n most : Nat) (w : World) (hv : Slc w ok v n (ints l)) (hn : l.length = n) (hl : n ≤ 1048576) (hmo : most ≤ 1048576) (hb : ∀ z ∈ l, z.natAbs ≤ 9007199254740992) :
    Calls Tryz.prog 42 #[v, .int .i64 (most : Int)] w fun e w' => e = .returned (.bool (decide ((cpTo l n).length ≤ most))) ∧ w = w' := by
  subst hn
  obtain ⟨r, hr⟩ : ∃ r, decide ((cpTo l l.length).length ≤ most) = r := ⟨_, rfl⟩
  rw [hr]
  have HR := Lib.hid hr
  have HV := Lib.hid hv
  have HBD := Lib.hid hb
  obtain ⟨ao, cap, rfl, _⟩ := hv.opened
  have h9 : ¬ (1048576 : Int) < (most : Int) := by omega
  clear hv hr hb
  go_enter Tryz.func42, Tryz.ntmps42
  go_wp2
  go_loopw [5, 12] (fun m i wr => ∃ (k g : Nat), k ≤ l.length ∧ i = .int .i64 k ∧ m = .int .i64 g ∧ g + (cpTo l k).length = most ∧ wr = w) (fun _ i _ => l.length - (intOf i).toNat)
  case atStart => exact ⟨0, most, by omega, rfl, rfl, by rw [cpTo_zero]; rfl, rfl⟩
  case round =>
    obtain ⟨k, g, hk, rfl, rfl, hg, rfl⟩ := hrel
    have HG := Lib.hid hg
    have hg0 : g ≤ 1048576 := by omega
    clear hg
    by_cases hlt : k < l.length
    · obtain ⟨b, off, cap1, x, e, hx, c0⟩ := Slc.at_map (Value.int .i64) HV.out k hlt
      cases e
      have HX := Lib.hid (getD_at hx)
      have hxb := HBD.out _ (mem_at hx)
      have HS := Lib.hid (show (cpTo l (k + 1)).length = (cpTo l k).length + x.natAbs by rw [cpTo_succ, List.length_append, cpR_len, HX.out])
      clear hx
      go_wp2_with fail
      refine (psize_calls x _ (by omega) (by omega)).mono ?_
      rintro e w1 ⟨rfl, rfl⟩
      obtain ⟨y, hy⟩ : ∃ y : Nat, x.natAbs = y := ⟨_, rfl⟩
      rw [hy]
      have HY := Lib.hid hy
      by_cases hgt : (g : Int) < (y : Int)
      · have HF := Lib.hid (show r = false by rw [← HR.out]; exact decide_eq_false (by have := cpTo_mono l (k := k + 1) (n := l.length) hlt; have := HS.out; have := HG.out; have := HY.out; omega))
        go_wp2
        go_ret
        exact ⟨ret_b HF.out.symm, rfl⟩
      · obtain ⟨d, hd⟩ : ∃ d : Nat, (g : Int) - (y : Int) = (d : Int) := ⟨g - y, by omega⟩
        have HD := Lib.hid hd
        have hd2 : d ≤ 1048576 := by omega
        go_wp2_with fail
        refine (psize_calls x _ (by omega) (by omega)).mono ?_
        rintro e w1 ⟨rfl, rfl⟩
        rw [HY.out]
        go_wp2
        go_roundw
        case rel => exact ⟨k + 1, d, by omega, by go_num, by first | rfl | go_num, by have h1 := HS.out; have h2 := HG.out; have h3 := HY.out; have h4 := HD.out; omega, by trivial⟩
        case measure => simp [intOf]; omega
    · have hkl : k = l.length := by omega
      have HF := Lib.hid (show r = true by rw [← HR.out]; exact decide_eq_true (by have := HG.out; rw [hkl] at this; omega))
      clear hkl
      go_wp2
      go_ret
      exact ⟨ret_b HF.out.symm, rfl⟩

set_option maxHeartbeats 8000000 in
theorem pcopies_calls {ok : Nat → Prop} (u : Value) (V : VV) (n most : Nat) (w : World) (h : IsV w ok u V) (hok : V.ok) (hE : V.kind = 4 → V.len ≠ 0) (hn : n ≤ 1048576) (hmo : most ≤ 1048576) (hbd : ∀ z ∈ V.whs, z.natAbs ≤ 9007199254740992) (hT : TabAt w) :
    Calls Tryz.prog 19 #[.agg #[u], .int .i64 (n : Int), .int .i64 (most : Int)] w fun e w' => ∃ v, e = .returned (.tuple #[v, .int .i64 (cpE V n most)]) ∧ Slc w' (fun _ => True) v (cpL V n most).length (ints (cpL V n most)) ∧ Below w.heap.size w w' := by
  obtain ⟨E, hEE⟩ : ∃ E, cpE V n most = E := ⟨_, rfl⟩
  obtain ⟨L, hLL⟩ : ∃ L, cpL V n most = L := ⟨_, rfl⟩
  rw [hEE, hLL]
  have HEE := Lib.hid hEE
  have HLL := Lib.hid hLL
  have hsu := h.store
  have HOK := Lib.hid hok
  have HE := Lib.hid hE
  have HN := Lib.hid hn
  have HMO := Lib.hid hmo
  have HBD := Lib.hid hbd
  obtain ⟨W1, hW1⟩ : ∃ W1, W1 = w.alloc (.cells #[u] 30) := ⟨_, rfl⟩
  have HB := Lib.hid (show Below w.heap.size w W1 by rw [hW1]; exact below_new _ _)
  have HA := Lib.hid (show At1 W1 w.heap.size u by rw [hW1]; exact At1.new w _ _)
  have HU := Lib.hid (show IsV W1 ok u V from h.grow HB.out)
  have HT := Lib.hid (show TabAt W1 from fun j hj => keep_below HB.out _ _ (hT j hj))
  obtain ⟨i0, hi, hz0, hz1, hz2⟩ := info_parts info_int3
  have HI0 := Lib.hid (And.intro hi (And.intro hz0 (And.intro hz1 hz2)))
  have hfold := hW1.symm
  clear h hok hE hn hmo hbd hT hW1 hEE hLL hi hz0 hz1 hz2
  have cHA0 := HA.out.2.1
  go_enter Tryz.func19, Tryz.ntmps19
  go_wp2_with fail
  clear hfold
  refine (pintegers_calls _ V _ HU.out HOK.out HE.out HT.out).mono ?_
  rintro e W11 ⟨v, rfl, hv, hB⟩
  clear cHA0
  replace HB := Lib.hid (HB.out.trans (hB.mono HB.out.size))
  replace HT := Lib.hid (fun j hj => keep_below hB _ _ (HT.out j hj))
  replace HU := Lib.hid (HU.out.grow hB)
  replace HA := Lib.hid (HA.out.below hB)
  have HV := Lib.hid hv.any
  clear hv
  clear hB
  obtain ⟨l, hl⟩ : ∃ l, V.whs = l := ⟨_, rfl⟩
  rw [hl] at HV HBD
  have HWL := Lib.hid hl
  obtain ⟨ao, cap, rfl, _⟩ := HV.out.opened
  obtain ⟨q, hq⟩ : ∃ q, V.isWh = q := ⟨_, rfl⟩
  rw [hq]
  have HQ := Lib.hid hq
  clear hl
  cases q
  · clear hq
    have hE2 : E = 24 := by rw [← HEE.out]; unfold cpE; rw [HQ.out]; rfl
    have HL2 := Lib.hid (show L = [] by rw [← HLL.out]; unfold cpL; rw [HQ.out]; rfl)
    subst hE2
    have cHA0 := HA.out.2.1
    go_wp2_with fail
    go_ret2
    refine ⟨_, rfl, ?_, HB.out⟩
    rw [HL2.out]
    exact Slc.nil _ _
  · clear hq
    by_cases hln : l.length = n
    · have HLE := Lib.hid (show l.length = n ∨ l.length = 1 from Or.inl hln)
      have HLN := Lib.hid hln
      have HSB0 := Lib.hid (show ∀ z ∈ cpS l n, z.natAbs ≤ 9007199254740992 by rw [cpS_same hln]; exact HBD.out)
      rw [← cpS_same hln] at HV
      rw [hln]
      rw [cpS_len] at HV
      clear hln
      have cHA0 := HA.out.2.1
      go_wp2_with fail
      obtain ⟨S, hS⟩ : ∃ S, cpS l n = S := ⟨_, rfl⟩
      have HS := Lib.hid hS
      rw [hS] at HV
      have HSN := Lib.hid (show S.length = n by rw [← hS]; exact cpS_len _ _)
      have HSB := Lib.hid (show ∀ z ∈ S, z.natAbs ≤ 9007199254740992 from hS ▸ HSB0.out)
      clear hS HSB0
      refine (pfit_calls _ S n most _ HV.out HSN.out HN.out HMO.out HSB.out).mono ?_
      rintro e w1 ⟨rfl, rfl⟩
      by_cases hfit : (cpTo S n).length ≤ most
      rotate_left
      · rw [decide_eq_false hfit]
        have hE2 : E = 26 := by rw [← HEE.out]; unfold cpE; rw [HQ.out, if_pos rfl, HWL.out]; exact (cpEw_26 HLE.out (by rw [HS.out]; omega)).1
        have HL2 := Lib.hid (show L = [] by rw [← HLL.out]; unfold cpL; rw [HQ.out, if_pos rfl, HWL.out]; exact (cpEw_26 HLE.out (by rw [HS.out]; omega)).2)
        subst hE2
        have cHA0 := HA.out.2.1
        go_wp2_with fail
        go_ret2
        refine ⟨_, rfl, ?_, HB.out⟩
        rw [HL2.out]
        exact Slc.nil _ _
      rw [decide_eq_true hfit]
      have hE2 : E = 0 := by rw [← HEE.out]; unfold cpE; rw [HQ.out, if_pos rfl, HWL.out]; exact (cpEw_0 HLE.out (by rw [HS.out]; exact hfit)).1
      have HL2 := Lib.hid (show L = cpTo S n by rw [← HLL.out]; unfold cpL; rw [HQ.out, if_pos rfl, HWL.out, (cpEw_0 HLE.out (by rw [HS.out]; exact hfit)).2, HS.out])
      subst hE2
      have HFIT := Lib.hid hfit
      clear hfit
      clear cHA0
      go_wp2_with fail
      go_loopw [10, 47] (fun v i wr => ∃ k : Nat, k ≤ n ∧ i = .int .i64 k ∧ wr.ownsRow W11.heap.size 3 1 v (cpTo S k).length (ints (cpTo S k)) ∧ Below W11.heap.size W11 wr) (fun _ i _ => n - (intOf i).toNat)
      case atStart => exact ⟨0, by omega, rfl, World.ownsRow_nil _ _ _ _, Below.refl _ _⟩
      case round =>
        obtain ⟨k, hk, rfl, hown, hBw⟩ := hrel
        have hn9 := HN.out
        obtain ⟨vo, vc, rfl⟩ := owns_form hown
        have HO := Lib.hid hown
        have HBw := Lib.hid hBw
        clear hown hBw
        by_cases hlt : k < n
        · obtain ⟨b, off, cap1, c, e, hx, c0⟩ := Slc.at_map (Value.int .i64) (l := S) (by rw [HSN.out]; exact HV.out.below HBw.out) k (by rw [HSN.out]; exact hlt)
          rw [HSN.out] at e
          cases e
          have HX := Lib.hid (getD_at hx)
          have hxb := HSB.out _ (mem_at hx)
          obtain ⟨C, hC⟩ : ∃ C, cpTo S k = C := ⟨_, rfl⟩
          obtain ⟨B, hB9⟩ : ∃ B, C.length = B := ⟨_, rfl⟩
          obtain ⟨q, hq⟩ : ∃ q : Nat, c.natAbs = q := ⟨_, rfl⟩
          have HSU := Lib.hid (show cpTo S (k + 1) = C ++ cpR c k by rw [cpTo_succ, HX.out, hC])
          have hTot : B + q ≤ 1048576 := by have h1 := cpTo_mono S (k := k + 1) (n := n) hlt; rw [HSU.out, List.length_append, cpR_len, hB9, hq] at h1; have := HFIT.out; have := HMO.out; omega
          rw [hC, hB9] at HO
          have HCL := Lib.hid hB9
          clear hx
          by_cases hneg : c < 0
          · have HP := Lib.hid (show cpTo S (k + 1) = C ++ List.replicate q (-1) by rw [HSU.out]; unfold cpR; rw [hq, if_pos hneg])
            rw [hC, hB9]
            clear hC hB9
            go_wp2_with fail
            refine (psize_calls c _ (by omega) (by omega)).mono ?_
            rintro e w1 ⟨rfl, rfl⟩
            rw [hq]
            go_wp2_with fail
            go_loopw [10, 57] (fun v j wq => ∃ i : Nat, i ≤ q ∧ j = .int .i64 i ∧ wq.ownsRow W11.heap.size 3 1 v (B + i) (ints (C ++ List.replicate i (-1))) ∧ Below W11.heap.size W11 wq) (fun _ j _ => q - (intOf j).toNat)
            case atStart => exact ⟨0, by omega, rfl, by simpa using HO.out, HBw.out⟩
            case round =>
              obtain ⟨i, hi, rfl, hown, hBq⟩ := hrel
              obtain ⟨vo, vc, rfl⟩ := owns_form hown
              have HOq := Lib.hid hown
              have HBq := Lib.hid hBq
              have hsz := hBq.size
              clear hown hBq
              by_cases hit : i < q
              · obtain ⟨W4, hW4⟩ : ∃ W4, W4 = wr.alloc (.cells #[.int .i64 (-1)] 3) := ⟨_, rfl⟩
                have HB4 := Lib.hid (show Below W11.heap.size W11 W4 by rw [hW4]; exact HBq.out.alloc hsz _)
                have HO4 := Lib.hid (show W4.ownsRow W11.heap.size 3 1 (.slice vo (B + i) vc) (B + i) (ints (C ++ List.replicate i (-1))) by rw [hW4]; exact HOq.out.alloc _)
                have HN4 := Lib.hid (show ∀ j u, ([.int .i64 (-1)] : List Value)[j]? = some u → W4.cell? ((⟨wr.heap.size, 0, none⟩ : Addr).add j) = some u by rw [hW4]; exact cell_one_newp _ _ _)
                have HSZ4 := Lib.hid HB4.out.size
                have HM1 := Lib.hid (show B + i + 1 ≤ maxLen by unfold maxLen; omega)
                have HM2 := Lib.hid (show (B + i + 1) * 8 ≤ 140737488355328 by omega)
                have hfold4 := hW4.symm
                clear hW4
                go_wp2_with (at_builtin; refine wpList_append_own _ rfl _ _ 22 rfl W11.heap.size 3 i0 (.int .i64 0) 1 8 Tryz.underlying22 HI0.out.1 HI0.out.2.1 HI0.out.2.2.1 HI0.out.2.2.2 rfl (by decide) _ _ _ rfl HO4.out ⟨wr.heap.size, 0, none⟩ 1 1 [.int .i64 (-1)] rfl rfl HN4.out (one_intp _) HM1.out HM2.out HSZ4.out ?_)
                intro v' w1 hown' hgrow _
                have HO1 := Lib.hid hown'
                have HB1 := Lib.hid (grown_below HB4.out HO4.out (Nat.le_refl _) HSZ4.out hgrow)
                clear hown' hgrow hfold4
                go_wp2
                go_roundw
                case rel =>
                  refine ⟨i + 1, by omega, by go_num, ?_, HB1.out⟩
                  have := HO1.out
                  rw [show ints (C ++ List.replicate (i + 1) (-1)) = ints (C ++ List.replicate i (-1)) ++ [.int .i64 (-1)] by simp [ints, List.replicate_succ']]
                  exact this
                case measure => simp [intOf]; omega
              · have hiq : i = q := by omega
                have HIQ := Lib.hid hiq
                clear hiq
                go_wp2
                go_roundw
                case rel =>
                  refine ⟨k + 1, by omega, by go_num, ?_, HBq.out⟩
                  rw [HP.out, List.length_append, List.length_replicate, HCL.out, ← HIQ.out]
                  exact HOq.out
                case measure => simp [intOf]; omega
          · have HP := Lib.hid (show cpTo S (k + 1) = C ++ List.replicate q ((k : Int)) by rw [HSU.out]; unfold cpR; rw [hq, if_neg hneg])
            rw [hC, hB9]
            clear hC hB9
            go_wp2_with fail
            refine (psize_calls c _ (by omega) (by omega)).mono ?_
            rintro e w1 ⟨rfl, rfl⟩
            rw [hq]
            go_wp2_with fail
            go_loopw [10, 57] (fun v j wq => ∃ i : Nat, i ≤ q ∧ j = .int .i64 i ∧ wq.ownsRow W11.heap.size 3 1 v (B + i) (ints (C ++ List.replicate i ((k : Int)))) ∧ Below W11.heap.size W11 wq) (fun _ j _ => q - (intOf j).toNat)
            case atStart => exact ⟨0, by omega, rfl, by simpa using HO.out, HBw.out⟩
            case round =>
              obtain ⟨i, hi, rfl, hown, hBq⟩ := hrel
              obtain ⟨vo, vc, rfl⟩ := owns_form hown
              have HOq := Lib.hid hown
              have HBq := Lib.hid hBq
              have hsz := hBq.size
              clear hown hBq
              by_cases hit : i < q
              · obtain ⟨W4, hW4⟩ : ∃ W4, W4 = wr.alloc (.cells #[.int .i64 ((k : Int))] 3) := ⟨_, rfl⟩
                have HB4 := Lib.hid (show Below W11.heap.size W11 W4 by rw [hW4]; exact HBq.out.alloc hsz _)
                have HO4 := Lib.hid (show W4.ownsRow W11.heap.size 3 1 (.slice vo (B + i) vc) (B + i) (ints (C ++ List.replicate i ((k : Int)))) by rw [hW4]; exact HOq.out.alloc _)
                have HN4 := Lib.hid (show ∀ j u, ([.int .i64 ((k : Int))] : List Value)[j]? = some u → W4.cell? ((⟨wr.heap.size, 0, none⟩ : Addr).add j) = some u by rw [hW4]; exact cell_one_newp _ _ _)
                have HSZ4 := Lib.hid HB4.out.size
                have HM1 := Lib.hid (show B + i + 1 ≤ maxLen by unfold maxLen; omega)
                have HM2 := Lib.hid (show (B + i + 1) * 8 ≤ 140737488355328 by omega)
                have hfold4 := hW4.symm
                clear hW4
                go_wp2_with (at_builtin; refine wpList_append_own _ rfl _ _ 22 rfl W11.heap.size 3 i0 (.int .i64 0) 1 8 Tryz.underlying22 HI0.out.1 HI0.out.2.1 HI0.out.2.2.1 HI0.out.2.2.2 rfl (by decide) _ _ _ rfl HO4.out ⟨wr.heap.size, 0, none⟩ 1 1 [.int .i64 ((k : Int))] rfl rfl HN4.out (one_intp _) HM1.out HM2.out HSZ4.out ?_)
                intro v' w1 hown' hgrow _
                have HO1 := Lib.hid hown'
                have HB1 := Lib.hid (grown_below HB4.out HO4.out (Nat.le_refl _) HSZ4.out hgrow)
                clear hown' hgrow hfold4
                go_wp2
                go_roundw
                case rel =>
                  refine ⟨i + 1, by omega, by go_num, ?_, HB1.out⟩
                  have := HO1.out
                  rw [show ints (C ++ List.replicate (i + 1) ((k : Int))) = ints (C ++ List.replicate i ((k : Int))) ++ [.int .i64 ((k : Int))] by simp [ints, List.replicate_succ']]
                  exact this
                case measure => simp [intOf]; omega
              · have hiq : i = q := by omega
                have HIQ := Lib.hid hiq
                clear hiq
                go_wp2
                go_roundw
                case rel =>
                  refine ⟨k + 1, by omega, by go_num, ?_, HBq.out⟩
                  rw [HP.out, List.length_append, List.length_replicate, HCL.out, ← HIQ.out]
                  exact HOq.out
                case measure => simp [intOf]; omega
        · have hkl : k = n := by omega
          have HK := Lib.hid hkl
          clear hkl
          go_wp2
          go_ret2
          refine ⟨.slice vo (cpTo S k).length vc, rfl, ?_, HB.out.trans (HBw.out.mono HB.out.size)⟩
          rw [HL2.out]
          have := (Slc.owned HO.out).any
          rw [HK.out] at this ⊢
          exact this
    by_cases hl1 : l.length = 1
    · have HLE := Lib.hid (show l.length = n ∨ l.length = 1 from Or.inr hl1)
      obtain ⟨x, hx⟩ : ∃ x, l = [x] := List.length_eq_one_iff.1 hl1
      have HLX := Lib.hid hx
      have HR1 := Lib.hid (show cpS l n = List.replicate n x by rw [cpS_one hln, hx]; rfl)
      have HSB0 := Lib.hid (show ∀ z ∈ cpS l n, z.natAbs ≤ 9007199254740992 by rw [HR1.out]; intro z hz; rw [(List.mem_replicate.1 hz).2]; exact HBD.out x (by rw [hx]; exact List.mem_singleton.2 rfl))
      have hln1 : ((1 : Int) == (n : Int)) = false := by rw [hl1] at hln; simp; omega
      have hn0 : (0 : Int) ≤ (n : Int) := by omega
      have hn9 : (n : Int) ≤ 1048576 := by have := HN.out; omega
      rw [hl1]
      rw [hx] at HV
      clear hx hln hl1
      have cHA0 := HA.out.2.1
      go_wp2_with fail
      refine (srepeatI_calls _ x n _ HV.out HN.out).mono ?_
      rintro e W12 ⟨v2, rfl, hv2, hB⟩
      clear cHA0
      replace HB := Lib.hid (HB.out.trans (hB.mono HB.out.size))
      replace HT := Lib.hid (fun j hj => keep_below hB _ _ (HT.out j hj))
      replace HU := Lib.hid (HU.out.grow hB)
      replace HA := Lib.hid (HA.out.below hB)
      replace HV := Lib.hid (HV.out.below hB)
      have HV2 := Lib.hid hv2.any
      clear hv2
      clear hB
      clear HV
      obtain ⟨ao2, cap2, rfl, _⟩ := HV2.out.opened
      have HV := Lib.hid (show Slc W12 (fun _ => True) (.slice ao2 n cap2) n (ints (cpS l n)) by rw [HR1.out]; have := HV2.out; simpa [ints] using this)
      clear HV2
      have cHA0 := HA.out.2.1
      go_wp2_with fail
      obtain ⟨S, hS⟩ : ∃ S, cpS l n = S := ⟨_, rfl⟩
      have HS := Lib.hid hS
      rw [hS] at HV
      have HSN := Lib.hid (show S.length = n by rw [← hS]; exact cpS_len _ _)
      have HSB := Lib.hid (show ∀ z ∈ S, z.natAbs ≤ 9007199254740992 from hS ▸ HSB0.out)
      clear hS HSB0
      refine (pfit_calls _ S n most _ HV.out HSN.out HN.out HMO.out HSB.out).mono ?_
      rintro e w1 ⟨rfl, rfl⟩
      by_cases hfit : (cpTo S n).length ≤ most
      rotate_left
      · rw [decide_eq_false hfit]
        have hE2 : E = 26 := by rw [← HEE.out]; unfold cpE; rw [HQ.out, if_pos rfl, HWL.out]; exact (cpEw_26 HLE.out (by rw [HS.out]; omega)).1
        have HL2 := Lib.hid (show L = [] by rw [← HLL.out]; unfold cpL; rw [HQ.out, if_pos rfl, HWL.out]; exact (cpEw_26 HLE.out (by rw [HS.out]; omega)).2)
        subst hE2
        have cHA0 := HA.out.2.1
        go_wp2_with fail
        go_ret2
        refine ⟨_, rfl, ?_, HB.out⟩
        rw [HL2.out]
        exact Slc.nil _ _
      rw [decide_eq_true hfit]
      have hE2 : E = 0 := by rw [← HEE.out]; unfold cpE; rw [HQ.out, if_pos rfl, HWL.out]; exact (cpEw_0 HLE.out (by rw [HS.out]; exact hfit)).1
      have HL2 := Lib.hid (show L = cpTo S n by rw [← HLL.out]; unfold cpL; rw [HQ.out, if_pos rfl, HWL.out, (cpEw_0 HLE.out (by rw [HS.out]; exact hfit)).2, HS.out])
      subst hE2
      have HFIT := Lib.hid hfit
      clear hfit
      clear cHA0
      go_wp2_with fail
      go_loopw [10, 47] (fun v i wr => ∃ k : Nat, k ≤ n ∧ i = .int .i64 k ∧ wr.ownsRow W12.heap.size 3 1 v (cpTo S k).length (ints (cpTo S k)) ∧ Below W12.heap.size W12 wr) (fun _ i _ => n - (intOf i).toNat)
      case atStart => exact ⟨0, by omega, rfl, World.ownsRow_nil _ _ _ _, Below.refl _ _⟩
      case round =>
        obtain ⟨k, hk, rfl, hown, hBw⟩ := hrel
        have hn9 := HN.out
        obtain ⟨vo, vc, rfl⟩ := owns_form hown
        have HO := Lib.hid hown
        have HBw := Lib.hid hBw
        clear hown hBw
        by_cases hlt : k < n
        · obtain ⟨b, off, cap1, c, e, hx, c0⟩ := Slc.at_map (Value.int .i64) (l := S) (by rw [HSN.out]; exact HV.out.below HBw.out) k (by rw [HSN.out]; exact hlt)
          rw [HSN.out] at e
          cases e
          have HX := Lib.hid (getD_at hx)
          have hxb := HSB.out _ (mem_at hx)
          obtain ⟨C, hC⟩ : ∃ C, cpTo S k = C := ⟨_, rfl⟩
          obtain ⟨B, hB9⟩ : ∃ B, C.length = B := ⟨_, rfl⟩
          obtain ⟨q, hq⟩ : ∃ q : Nat, c.natAbs = q := ⟨_, rfl⟩
          have HSU := Lib.hid (show cpTo S (k + 1) = C ++ cpR c k by rw [cpTo_succ, HX.out, hC])
          have hTot : B + q ≤ 1048576 := by have h1 := cpTo_mono S (k := k + 1) (n := n) hlt; rw [HSU.out, List.length_append, cpR_len, hB9, hq] at h1; have := HFIT.out; have := HMO.out; omega
          rw [hC, hB9] at HO
          have HCL := Lib.hid hB9
          clear hx
          by_cases hneg : c < 0
          · have HP := Lib.hid (show cpTo S (k + 1) = C ++ List.replicate q (-1) by rw [HSU.out]; unfold cpR; rw [hq, if_pos hneg])
            rw [hC, hB9]
            clear hC hB9
            go_wp2_with fail
            refine (psize_calls c _ (by omega) (by omega)).mono ?_
            rintro e w1 ⟨rfl, rfl⟩
            rw [hq]
            go_wp2_with fail
            go_loopw [10, 57] (fun v j wq => ∃ i : Nat, i ≤ q ∧ j = .int .i64 i ∧ wq.ownsRow W12.heap.size 3 1 v (B + i) (ints (C ++ List.replicate i (-1))) ∧ Below W12.heap.size W12 wq) (fun _ j _ => q - (intOf j).toNat)
            case atStart => exact ⟨0, by omega, rfl, by simpa using HO.out, HBw.out⟩
            case round =>
              obtain ⟨i, hi, rfl, hown, hBq⟩ := hrel
              obtain ⟨vo, vc, rfl⟩ := owns_form hown
              have HOq := Lib.hid hown
              have HBq := Lib.hid hBq
              have hsz := hBq.size
              clear hown hBq
              by_cases hit : i < q
              · obtain ⟨W4, hW4⟩ : ∃ W4, W4 = wr.alloc (.cells #[.int .i64 (-1)] 3) := ⟨_, rfl⟩
                have HB4 := Lib.hid (show Below W12.heap.size W12 W4 by rw [hW4]; exact HBq.out.alloc hsz _)
                have HO4 := Lib.hid (show W4.ownsRow W12.heap.size 3 1 (.slice vo (B + i) vc) (B + i) (ints (C ++ List.replicate i (-1))) by rw [hW4]; exact HOq.out.alloc _)
                have HN4 := Lib.hid (show ∀ j u, ([.int .i64 (-1)] : List Value)[j]? = some u → W4.cell? ((⟨wr.heap.size, 0, none⟩ : Addr).add j) = some u by rw [hW4]; exact cell_one_newp _ _ _)
                have HSZ4 := Lib.hid HB4.out.size
                have HM1 := Lib.hid (show B + i + 1 ≤ maxLen by unfold maxLen; omega)
                have HM2 := Lib.hid (show (B + i + 1) * 8 ≤ 140737488355328 by omega)
                have hfold4 := hW4.symm
                clear hW4
                go_wp2_with (at_builtin; refine wpList_append_own _ rfl _ _ 22 rfl W12.heap.size 3 i0 (.int .i64 0) 1 8 Tryz.underlying22 HI0.out.1 HI0.out.2.1 HI0.out.2.2.1 HI0.out.2.2.2 rfl (by decide) _ _ _ rfl HO4.out ⟨wr.heap.size, 0, none⟩ 1 1 [.int .i64 (-1)] rfl rfl HN4.out (one_intp _) HM1.out HM2.out HSZ4.out ?_)
                intro v' w1 hown' hgrow _
                have HO1 := Lib.hid hown'
                have HB1 := Lib.hid (grown_below HB4.out HO4.out (Nat.le_refl _) HSZ4.out hgrow)
                clear hown' hgrow hfold4
                go_wp2
                go_roundw
                case rel =>
                  refine ⟨i + 1, by omega, by go_num, ?_, HB1.out⟩
                  have := HO1.out
                  rw [show ints (C ++ List.replicate (i + 1) (-1)) = ints (C ++ List.replicate i (-1)) ++ [.int .i64 (-1)] by simp [ints, List.replicate_succ']]
                  exact this
                case measure => simp [intOf]; omega
              · have hiq : i = q := by omega
                have HIQ := Lib.hid hiq
                clear hiq
                go_wp2
                go_roundw
                case rel =>
                  refine ⟨k + 1, by omega, by go_num, ?_, HBq.out⟩
                  rw [HP.out, List.length_append, List.length_replicate, HCL.out, ← HIQ.out]
                  exact HOq.out
                case measure => simp [intOf]; omega
          · have HP := Lib.hid (show cpTo S (k + 1) = C ++ List.replicate q ((k : Int)) by rw [HSU.out]; unfold cpR; rw [hq, if_neg hneg])
            rw [hC, hB9]
            clear hC hB9
            go_wp2_with fail
            refine (psize_calls c _ (by omega) (by omega)).mono ?_
            rintro e w1 ⟨rfl, rfl⟩
            rw [hq]
            go_wp2_with fail
            go_loopw [10, 57] (fun v j wq => ∃ i : Nat, i ≤ q ∧ j = .int .i64 i ∧ wq.ownsRow W12.heap.size 3 1 v (B + i) (ints (C ++ List.replicate i ((k : Int)))) ∧ Below W12.heap.size W12 wq) (fun _ j _ => q - (intOf j).toNat)
            case atStart => exact ⟨0, by omega, rfl, by simpa using HO.out, HBw.out⟩
            case round =>
              obtain ⟨i, hi, rfl, hown, hBq⟩ := hrel
              obtain ⟨vo, vc, rfl⟩ := owns_form hown
              have HOq := Lib.hid hown
              have HBq := Lib.hid hBq
              have hsz := hBq.size
              clear hown hBq
              by_cases hit : i < q
              · obtain ⟨W4, hW4⟩ : ∃ W4, W4 = wr.alloc (.cells #[.int .i64 ((k : Int))] 3) := ⟨_, rfl⟩
                have HB4 := Lib.hid (show Below W12.heap.size W12 W4 by rw [hW4]; exact HBq.out.alloc hsz _)
                have HO4 := Lib.hid (show W4.ownsRow W12.heap.size 3 1 (.slice vo (B + i) vc) (B + i) (ints (C ++ List.replicate i ((k : Int)))) by rw [hW4]; exact HOq.out.alloc _)
                have HN4 := Lib.hid (show ∀ j u, ([.int .i64 ((k : Int))] : List Value)[j]? = some u → W4.cell? ((⟨wr.heap.size, 0, none⟩ : Addr).add j) = some u by rw [hW4]; exact cell_one_newp _ _ _)
                have HSZ4 := Lib.hid HB4.out.size
                have HM1 := Lib.hid (show B + i + 1 ≤ maxLen by unfold maxLen; omega)
                have HM2 := Lib.hid (show (B + i + 1) * 8 ≤ 140737488355328 by omega)
                have hfold4 := hW4.symm
                clear hW4
                go_wp2_with (at_builtin; refine wpList_append_own _ rfl _ _ 22 rfl W12.heap.size 3 i0 (.int .i64 0) 1 8 Tryz.underlying22 HI0.out.1 HI0.out.2.1 HI0.out.2.2.1 HI0.out.2.2.2 rfl (by decide) _ _ _ rfl HO4.out ⟨wr.heap.size, 0, none⟩ 1 1 [.int .i64 ((k : Int))] rfl rfl HN4.out (one_intp _) HM1.out HM2.out HSZ4.out ?_)
                intro v' w1 hown' hgrow _
                have HO1 := Lib.hid hown'
                have HB1 := Lib.hid (grown_below HB4.out HO4.out (Nat.le_refl _) HSZ4.out hgrow)
                clear hown' hgrow hfold4
                go_wp2
                go_roundw
                case rel =>
                  refine ⟨i + 1, by omega, by go_num, ?_, HB1.out⟩
                  have := HO1.out
                  rw [show ints (C ++ List.replicate (i + 1) ((k : Int))) = ints (C ++ List.replicate i ((k : Int))) ++ [.int .i64 ((k : Int))] by simp [ints, List.replicate_succ']]
                  exact this
                case measure => simp [intOf]; omega
              · have hiq : i = q := by omega
                have HIQ := Lib.hid hiq
                clear hiq
                go_wp2
                go_roundw
                case rel =>
                  refine ⟨k + 1, by omega, by go_num, ?_, HBq.out⟩
                  rw [HP.out, List.length_append, List.length_replicate, HCL.out, ← HIQ.out]
                  exact HOq.out
                case measure => simp [intOf]; omega
        · have hkl : k = n := by omega
          have HK := Lib.hid hkl
          clear hkl
          go_wp2
          go_ret2
          refine ⟨.slice vo (cpTo S k).length vc, rfl, ?_, HB.out.trans (HBw.out.mono HB.out.size)⟩
          rw [HL2.out]
          have := (Slc.owned HO.out).any
          rw [HK.out] at this ⊢
          exact this
    have HLE := Lib.hid (show ¬ (l.length = n ∨ l.length = 1) by omega)
    have hE2 : E = 23 := by rw [← HEE.out]; unfold cpE; rw [HQ.out, if_pos rfl, HWL.out]; exact (cpEw_23 HLE.out).1
    have HL2 := Lib.hid (show L = [] by rw [← HLL.out]; unfold cpL; rw [HQ.out, if_pos rfl, HWL.out]; exact (cpEw_23 HLE.out).2)
    have hb1 : ((l.length : Int) == (n : Int)) = false := by simp; omega
    have hb2 : ((l.length : Int) == 1) = false := by simp; omega
    subst hE2
    clear hln hl1
    have cHA0 := HA.out.2.1
    go_wp2_with fail
    go_ret2
    refine ⟨_, rfl, ?_, HB.out⟩
    rw [HL2.out]
    exact Slc.nil _ _
end Go.Proofs.YtpcighgflolojaaGreatDoor

/- Layer 15, plain: the whole numbers of a squeezed vector. -/
namespace Go.Proofs.YtpcighgflolojaaGreatDoor
set_option maxRecDepth 100000
open Go.RowKit Fl
set_option linter.unusedVariables false

theorem wn_flag (b : Bool) : Wh (flagW b) (flagZ b) := by
  cases b
  · exact wh_ofInt (by decide) (by decide +kernel)
  · exact wh_ofInt (by decide) (by decide +kernel)
theorem VV.wh_nums {V : VV} (hok : V.ok) (hn : V.nm) (h : V.isWh = true) : V.whs = V.nums.map wnOf ∧ (∀ x ∈ V.nums, ∃ n, Wh x n) ∧ ∀ z ∈ V.whs, z.natAbs ≤ 9007199254740992 := by
  have key : ∀ l : List Int, (∀ z ∈ l, z.natAbs ≤ 9007199254740992) → l = (l.map (floatOfInt .f64)).map wnOf ∧ ∀ x ∈ l.map (floatOfInt .f64), ∃ n, Wh x n := by
    intro l hl
    refine ⟨?_, ?_⟩
    · rw [List.map_map]
      conv => lhs; rw [← List.map_id l]
      exact List.map_congr_left (fun z hz => (wnOf_wh (wh_ofInt (hl z hz) rfl)).symm)
    · intro x hx
      obtain ⟨z, hz, rfl⟩ := List.mem_map.1 hx
      exact ⟨z, wh_ofInt (hl z hz) rfl⟩
  cases V with
  | bits l =>
    refine ⟨?_, ?_, ?_⟩
    · show l.map flagZ = (l.map flagW).map wnOf
      rw [List.map_map]
      exact List.map_congr_left (fun b _ => (wnOf_wh (wn_flag b)).symm)
    · intro x hx
      obtain ⟨b, _, rfl⟩ := List.mem_map.1 hx
      exact ⟨_, wn_flag b⟩
    · intro z hz
      obtain ⟨b, _, rfl⟩ := List.mem_map.1 hz
      cases b <;> decide
  | smalls l =>
    have hb : ∀ z ∈ l, z.natAbs ≤ 9007199254740992 := fun z hz => by have := hok.2 z hz; omega
    exact ⟨(key l hb).1, (key l hb).2, hb⟩
  | ints l =>
    have hb : ∀ z ∈ l, z.natAbs ≤ 9007199254740992 := fun z hz => by have := sm_of (hn z hz); omega
    exact ⟨(key l hb).1, (key l hb).2, hb⟩
  | none => simp [VV.isWh] at h
  | floats l => simp [VV.isWh] at h
  | chars l => simp [VV.isWh] at h
  | boxes l => simp [VV.isWh] at h
/-- A squeezed vector of numbers: it keeps whole numbers if they are all whole. -/
theorem sq_facts {t : List Nat} (hl : t.length ≤ 1048576) (hN : ∀ x ∈ t, Num x) : (VV.floats t).sq.ok ∧ (VV.floats t).sq.nm ∧ (VV.floats t).sq.len = t.length ∧ (VV.floats t).sq.nums = t ∧ ((VV.floats t).sq.kind = 4 → (VV.floats t).sq.len ≠ 0) := by
  obtain ⟨s1, s2, s3, s4, s5, s6⟩ := VV.sq_spec (V := VV.floats t) hl hN
  refine ⟨s4, s5, s6, s2, fun h e => ?_⟩
  rw [VV.sq_kind (V := VV.floats t) hl hN rfl] at h
  have e0 : t.length = 0 := by rw [s6] at e; exact e
  have : t = [] := List.length_eq_zero_iff.1 e0
  subst this
  rw [show (VV.floats []).nums = [] from rfl, leastW_nil] at h
  omega
theorem sq_yes {t : List Nat} (hl : t.length ≤ 1048576) (hN : ∀ x ∈ t, Num x) (h : ∀ x ∈ t, ∃ n, Wh x n) : (VV.floats t).sq.isWh = true ∧ (VV.floats t).sq.whs = t.map wnOf ∧ ∀ z ∈ (VV.floats t).sq.whs, z.natAbs ≤ 9007199254740992 := by
  obtain ⟨s1, s2, s3, s4, s5, s6⟩ := VV.sq_spec (V := VV.floats t) hl hN
  have hk := VV.sq_kind (V := VV.floats t) hl hN rfl
  have h3 : leastW t ≤ 3 := leastW_all (by decide) (fun x hx => by obtain ⟨n, hn⟩ := h x hx; rw [kindW_wh hn]; exact (kindZ_le n).2)
  have h1 := (leastW_le t).1
  have hw : (VV.floats t).sq.isWh = true := by
    have e : (VV.floats t).sq.kind = (leastW t : Int) := hk
    have c : (VV.floats t).sq.cls = 0 := s3
    revert e c
    cases (VV.floats t).sq <;> intro e c <;> first | rfl | (simp [VV.kind] at e; omega) | (simp [VV.cls] at c)
  obtain ⟨a, _, b⟩ := VV.wh_nums s4 s5 hw
  exact ⟨hw, by rw [a, s2]; rfl, b⟩
/-- The example's numbers: 2, 0, -1. -/
theorem aw15_wh : Wh 4611686018427387904 2 ∧ Wh 0 0 ∧ Wh 13830554455654793216 (-1) := ⟨wh_ofInt (by decide) (by decide +kernel), wh_ofInt (by decide) (by decide +kernel), wh_ofInt (by decide) (by decide +kernel)⟩
theorem aw15_num : ∀ x ∈ ([4611686018427387904, 0, 13830554455654793216] : List Nat), Num x := by
  intro x hx
  simp only [List.mem_cons, List.not_mem_nil, or_false] at hx
  rcases hx with rfl | rfl | rfl <;> exact ⟨⟨by decide, by decide⟩, by decide +kernel⟩
theorem aw15_ze : ([4611686018427387904, 0, 13830554455654793216] : List Nat).map ze = [4611686018427387904, 0, 13830554455654793216] := map_ze aw15_num
theorem aw15_all : ∀ x ∈ ([4611686018427387904, 0, 13830554455654793216] : List Nat), ∃ n, Wh x n := by
  intro x hx
  simp only [List.mem_cons, List.not_mem_nil, or_false] at hx
  rcases hx with rfl | rfl | rfl
  · exact ⟨_, aw15_wh.1⟩
  · exact ⟨_, aw15_wh.2.1⟩
  · exact ⟨_, aw15_wh.2.2⟩
theorem aw15_whs : ([4611686018427387904, 0, 13830554455654793216] : List Nat).map wnOf = [2, 0, -1] := by
  simp only [List.map_cons, List.map_nil, wnOf_wh aw15_wh.1, wnOf_wh aw15_wh.2.1, wnOf_wh aw15_wh.2.2]
theorem aw15_cp : cpTo (cpS [2, 0, -1] 3) 3 = [0, 0, -1] := by decide +kernel
theorem aw15_cpE : cpE (VV.floats [4611686018427387904, 0, 13830554455654793216]).sq 3 9 = 0 ∧ cpL (VV.floats [4611686018427387904, 0, 13830554455654793216]).sq 3 9 = [0, 0, -1] := by
  obtain ⟨a, b, _⟩ := sq_yes (t := [4611686018427387904, 0, 13830554455654793216]) (by decide) aw15_num aw15_all
  obtain ⟨c, d⟩ := cpEw_0 (l := [2, 0, -1]) (n := 3) (most := 9) (Or.inl rfl) (by rw [aw15_cp]; decide)
  unfold cpE cpL
  rw [a, if_pos rfl, if_pos rfl, b, aw15_whs]
  exact ⟨c, d.trans aw15_cp⟩
theorem aw15_tak : takL 2 3 = [0, 1, -1] := by decide +kernel
theorem aw15_rol : rolL 3 (-1) = [2, 0, 1] := by decide +kernel
end Go.Proofs.YtpcighgflolojaaGreatDoor

/- Layer 15's laws: awake. -/
namespace Go.Proofs.YtpcighgflolojaaGreatDoor
set_option maxRecDepth 100000
open Go.RowKit Fl
set_option linter.unusedVariables false

def Yes15 (w : World) (e : Ending) (w' : World) : Prop := e = .returned (.bool true) ∧ Below w.heap.size w w'
theorem ints_eq {ok ok2 : Nat → Prop} (v1 v2 : Value) (l : List Int) (n : Nat) (w : World) (h1 : Slc w ok v1 n (ints l)) (h2 : Slc w ok2 v2 n (ints l)) (hn : l.length = n) (hm : n ≤ 2000000) :
    Calls Tryz.prog 21 #[v1, v2] w fun e w' => e = .returned (.bool true) ∧ Below w.heap.size w w' := by
  subst hn
  have e : (l == l) = true := by simp
  rw [← e]
  exact ints_calls v1 v2 l l w h1.1.sl h2.1.sl (by unfold maxLen; omega)
theorem ptaken_23 (w : World) : Calls Tryz.prog 20 #[.int .i64 2, .int .i64 3, .int .i64 9] w fun e w' => ∃ v, e = .returned (.tuple #[v, .bool true]) ∧ Slc w' (fun b => w.heap.size ≤ b) v 3 (ints [0, 1, -1]) ∧ Below w.heap.size w w' := by
  have := ptaken_yes 2 3 9 w (by decide) (by decide) (by decide)
  rw [aw15_tak] at this
  exact this
theorem prolled_31 (w : World) : Calls Tryz.prog 22 #[.int .i64 3, .int .i64 (-1)] w fun e w' => ∃ v, e = .returned v ∧ Slc w' (fun b => w.heap.size ≤ b) v 3 (ints [2, 0, 1]) ∧ Below w.heap.size w w' := by
  have := prolled_calls 3 (-1) w (by decide) (by decide) (by decide)
  rw [aw15_rol] at this
  exact this
theorem pcopies_39 {ok : Nat → Prop} (u : Value) (w : World) (h : IsV w ok u (VV.floats [4611686018427387904, 0, 13830554455654793216]).sq) (hT : TabAt w) :
    Calls Tryz.prog 19 #[.agg #[u], .int .i64 3, .int .i64 9] w fun e w' => ∃ v, e = .returned (.tuple #[v, .int .i64 0]) ∧ Slc w' (fun _ => True) v 3 (ints [0, 0, -1]) ∧ Below w.heap.size w w' := by
  obtain ⟨a, b, c, d, e⟩ := sq_facts (t := [4611686018427387904, 0, 13830554455654793216]) (by decide) aw15_num
  have := pcopies_calls u _ 3 9 w h a e (by decide) (by decide) (sq_yes (by decide) aw15_num aw15_all).2.2 hT
  rw [aw15_cpE.1, aw15_cpE.2] at this
  exact this
set_option maxHeartbeats 8000000 in
theorem awake15_calls (w : World) (hT : TabAt w) : Calls Tryz.prog 6 #[] w (Yes15 w) := by
  obtain ⟨W1, hW1⟩ : ∃ W1, W1 = w.alloc (.cells #[.float .f64 4611686018427387904, .float .f64 0, .float .f64 13830554455654793216] 43) := ⟨_, rfl⟩
  have HB := Lib.hid (show Below w.heap.size w W1 by rw [hW1]; exact below_new _ _)
  have HV := Lib.hid (show Slc W1 (fun _ => True) (.slice (some ⟨w.heap.size, 0, none⟩) 3 3) [4611686018427387904, 0, 13830554455654793216].length (f64s [4611686018427387904, 0, 13830554455654793216]) by
    rw [hW1]; exact (Slc.owned (World.ownsRow_lit (base := 0) (e := 43) (size := 1) w #[.float .f64 4611686018427387904, .float .f64 0, .float .f64 13830554455654793216] 3 (Nat.zero_le _) (by unfold maxLen; omega) rfl)).keep (Kept.refl _ _) (fun _ _ _ => trivial))
  have HT := Lib.hid (show TabAt W1 from fun j hj => keep_below HB.out _ _ (hT j hj))
  have hfold := hW1.symm
  clear hW1 hT
  go_enter Tryz.func6, Tryz.ntmps6
  go_wp2_with fail
  clear hfold
  refine (numbers_yes _ [4611686018427387904, 0, 13830554455654793216] _ HV.out (by decide) (fun x hx => (aw15_num x hx).1) HT.out).mono ?_
  rintro e W11 ⟨u, rfl, hu, hB⟩
  replace HB := Lib.hid (HB.out.trans (hB.mono HB.out.size))
  replace HT := Lib.hid (fun j hj => keep_below hB _ _ (HT.out j hj))
  replace HV := Lib.hid (HV.out.below hB)
  rw [aw15_ze] at hu
  have HU := Lib.hid (IsV.any hu)
  have hsu := HU.out.store
  clear hu
  clear hB
  clear HV
  obtain ⟨W12, hWn⟩ : ∃ xw9, W11.alloc (.cells #[u] 30) = xw9 := ⟨_, rfl⟩
  have hB : Below W11.heap.size W11 W12 := by rw [← hWn]; exact below_new _ _
  have hNB : At1 W12 W11.heap.size (u) := by rw [← hWn]; exact At1.new _ _ _
  replace HB := Lib.hid (HB.out.trans (hB.mono HB.out.size))
  replace HT := Lib.hid (fun j hj => keep_below hB _ _ (HT.out j hj))
  replace HU := Lib.hid (HU.out.grow hB)
  have HA := Lib.hid hNB
  clear hNB hB
  have cHA0 := HA.out.2.1
  go_wp2_with fail
  clear hWn
  refine (pcopies_39 _ _ HU.out HT.out).mono ?_
  rintro e W13 ⟨v1, rfl, hv1, hB⟩
  clear cHA0
  replace HB := Lib.hid (HB.out.trans (hB.mono HB.out.size))
  replace HT := Lib.hid (fun j hj => keep_below hB _ _ (HT.out j hj))
  replace HU := Lib.hid (HU.out.grow hB)
  replace HA := Lib.hid (HA.out.below hB)
  have H1 := Lib.hid hv1
  obtain ⟨a1, c1, rfl, _⟩ := hv1.opened
  clear hv1
  clear hB
  clear HA HU
  go_wp2_with fail
  refine (ptaken_23 _).mono ?_
  rintro e W14 ⟨v2, rfl, hv2, hB⟩
  replace HB := Lib.hid (HB.out.trans (hB.mono HB.out.size))
  replace HT := Lib.hid (fun j hj => keep_below hB _ _ (HT.out j hj))
  replace H1 := Lib.hid (H1.out.below hB)
  have H2 := Lib.hid hv2.any
  obtain ⟨a2, c2, rfl, _⟩ := hv2.opened
  clear hv2
  clear hB
  go_wp2_with fail
  obtain ⟨W15, hWn⟩ : ∃ xw9, W14.alloc (.cells #[.int .i64 0, .int .i64 0, .int .i64 (-1)] 3) = xw9 := ⟨_, rfl⟩
  have hB : Below W14.heap.size W14 W15 := by rw [← hWn]; exact below_new _ _
  have hNB : Slc W15 (fun _ => True) (.slice (some ⟨W14.heap.size, 0, none⟩) 3 3) 3 (ints [0, 0, -1]) := by
    rw [← hWn]; exact (Slc.owned (World.ownsRow_lit (base := 0) (e := 3) (size := 1) W14 #[.int .i64 0, .int .i64 0, .int .i64 (-1)] 3 (Nat.zero_le _) (by unfold maxLen; omega) rfl)).keep (Kept.refl _ _) (fun _ _ _ => trivial)
  rw [hWn]
  clear hWn
  replace HB := Lib.hid (HB.out.trans (hB.mono HB.out.size))
  replace HT := Lib.hid (fun j hj => keep_below hB _ _ (HT.out j hj))
  replace H1 := Lib.hid (H1.out.below hB)
  replace H2 := Lib.hid (H2.out.below hB)
  have HL1 := Lib.hid hNB
  clear hNB hB
  refine (ints_eq _ _ [0, 0, -1] 3 _ H1.out HL1.out rfl (by decide)).mono ?_
  rintro e W16 ⟨rfl, hB⟩
  replace HB := Lib.hid (HB.out.trans (hB.mono HB.out.size))
  replace HT := Lib.hid (fun j hj => keep_below hB _ _ (HT.out j hj))
  replace H1 := Lib.hid (H1.out.below hB)
  replace H2 := Lib.hid (H2.out.below hB)
  replace HL1 := Lib.hid (HL1.out.below hB)
  clear hB
  go_wp2_with fail
  obtain ⟨W17, hWn⟩ : ∃ xw9, W16.alloc (.cells #[.int .i64 0, .int .i64 1, .int .i64 (-1)] 3) = xw9 := ⟨_, rfl⟩
  have hB : Below W16.heap.size W16 W17 := by rw [← hWn]; exact below_new _ _
  have hNB : Slc W17 (fun _ => True) (.slice (some ⟨W16.heap.size, 0, none⟩) 3 3) 3 (ints [0, 1, -1]) := by
    rw [← hWn]; exact (Slc.owned (World.ownsRow_lit (base := 0) (e := 3) (size := 1) W16 #[.int .i64 0, .int .i64 1, .int .i64 (-1)] 3 (Nat.zero_le _) (by unfold maxLen; omega) rfl)).keep (Kept.refl _ _) (fun _ _ _ => trivial)
  rw [hWn]
  clear hWn
  replace HB := Lib.hid (HB.out.trans (hB.mono HB.out.size))
  replace HT := Lib.hid (fun j hj => keep_below hB _ _ (HT.out j hj))
  replace H1 := Lib.hid (H1.out.below hB)
  replace H2 := Lib.hid (H2.out.below hB)
  replace HL1 := Lib.hid (HL1.out.below hB)
  have HL2 := Lib.hid hNB
  clear hNB hB
  refine (ints_eq _ _ [0, 1, -1] 3 _ H2.out HL2.out rfl (by decide)).mono ?_
  rintro e W18 ⟨rfl, hB⟩
  replace HB := Lib.hid (HB.out.trans (hB.mono HB.out.size))
  replace HT := Lib.hid (fun j hj => keep_below hB _ _ (HT.out j hj))
  replace H1 := Lib.hid (H1.out.below hB)
  replace H2 := Lib.hid (H2.out.below hB)
  replace HL1 := Lib.hid (HL1.out.below hB)
  replace HL2 := Lib.hid (HL2.out.below hB)
  clear hB
  go_wp2_with fail
  refine (prolled_31 _).mono ?_
  rintro e W19 ⟨v3, rfl, hv3, hB⟩
  replace HB := Lib.hid (HB.out.trans (hB.mono HB.out.size))
  replace HT := Lib.hid (fun j hj => keep_below hB _ _ (HT.out j hj))
  replace H1 := Lib.hid (H1.out.below hB)
  replace H2 := Lib.hid (H2.out.below hB)
  replace HL1 := Lib.hid (HL1.out.below hB)
  replace HL2 := Lib.hid (HL2.out.below hB)
  have H3 := Lib.hid hv3.any
  obtain ⟨a3, c3, rfl, _⟩ := hv3.opened
  clear hv3
  clear hB
  go_wp2_with fail
  obtain ⟨W20, hWn⟩ : ∃ xw9, W19.alloc (.cells #[.int .i64 2, .int .i64 0, .int .i64 1] 3) = xw9 := ⟨_, rfl⟩
  have hB : Below W19.heap.size W19 W20 := by rw [← hWn]; exact below_new _ _
  have hNB : Slc W20 (fun _ => True) (.slice (some ⟨W19.heap.size, 0, none⟩) 3 3) 3 (ints [2, 0, 1]) := by
    rw [← hWn]; exact (Slc.owned (World.ownsRow_lit (base := 0) (e := 3) (size := 1) W19 #[.int .i64 2, .int .i64 0, .int .i64 1] 3 (Nat.zero_le _) (by unfold maxLen; omega) rfl)).keep (Kept.refl _ _) (fun _ _ _ => trivial)
  rw [hWn]
  clear hWn
  replace HB := Lib.hid (HB.out.trans (hB.mono HB.out.size))
  replace HT := Lib.hid (fun j hj => keep_below hB _ _ (HT.out j hj))
  replace H1 := Lib.hid (H1.out.below hB)
  replace H2 := Lib.hid (H2.out.below hB)
  replace HL1 := Lib.hid (HL1.out.below hB)
  replace HL2 := Lib.hid (HL2.out.below hB)
  replace H3 := Lib.hid (H3.out.below hB)
  have HL3 := Lib.hid hNB
  clear hNB hB
  refine (ints_eq _ _ [2, 0, 1] 3 _ H3.out HL3.out rfl (by decide)).mono ?_
  rintro e W21 ⟨rfl, hB⟩
  replace HB := Lib.hid (HB.out.trans (hB.mono HB.out.size))
  replace HT := Lib.hid (fun j hj => keep_below hB _ _ (HT.out j hj))
  replace H1 := Lib.hid (H1.out.below hB)
  replace H2 := Lib.hid (H2.out.below hB)
  replace HL1 := Lib.hid (HL1.out.below hB)
  replace HL2 := Lib.hid (HL2.out.below hB)
  replace H3 := Lib.hid (H3.out.below hB)
  replace HL3 := Lib.hid (HL3.out.below hB)
  clear hB
  go_wp2_with fail
  go_ret
  exact ⟨rfl, HB.out⟩
end Go.Proofs.YtpcighgflolojaaGreatDoor

/- Layer 15, walked: product, picked, Along. -/
namespace Go.Proofs.YtpcighgflolojaaGreatDoor
set_option maxRecDepth 100000
open Go.RowKit Fl
set_option linter.unusedVariables false

theorem getD_at2 {l : List Int} {k : Nat} {x : Int} (h : l[k]? = some x) : l.getD k 0 = x := by rw [List.getD_eq_getElem?_getD, h]; rfl
set_option maxHeartbeats 4000000 in
theorem pproduct_calls (a b c most : Nat) (w : World) (h : a * b * c ≤ most) (hm : most ≤ 2147483648) (ha : a ≤ 1048576) (hb : b ≤ 1048576) (hc : c ≤ 1048576) :
    Calls Tryz.prog 23 #[.int .i64 (a : Int), .int .i64 (b : Int), .int .i64 (c : Int), .int .i64 (most : Int)] w fun e w' => e = .returned (.tuple #[.int .i64 ((a * b * c : Nat) : Int), .bool true]) ∧ w = w' := by
  obtain ⟨M, hM⟩ : ∃ M : Nat, (if (c : Int) < (if (b : Int) < (a : Int) then (b : Int) else (a : Int)) then (c : Int) else (if (b : Int) < (a : Int) then (b : Int) else (a : Int))) = (M : Int) := ⟨_, (Int.toNat_of_nonneg (by (repeat' split) <;> omega)).symm⟩
  have hmin : ∀ (ts : Array TypeId) (t : TypeId) (w : World), (Builtin.min_ ts t #[.int .i64 (a : Int), .int .i64 (b : Int), .int .i64 (c : Int)]).run Tryz.prog w = .ok (.int .i64 (M : Int)) w := fun ts t w => by rw [run_min_int3, hM]
  have hM1 : M ≤ 1048576 := by have h9 : (M : Int) ≤ 1048576 := by rw [← hM]; (repeat' split) <;> omega
                               omega
  by_cases h0 : M = 0
  · have hz : a * b * c = 0 := by
      have h9 : a = 0 ∨ b = 0 ∨ c = 0 := by rw [h0] at hM; revert hM; (repeat' split) <;> intro hM <;> omega
      rcases h9 with rfl | rfl | rfl <;> simp
    rw [hz]
    subst h0
    clear hM
    go_enter Tryz.func23, Tryz.ntmps23
    go_wp2
    go_ret2
    exact ⟨rfl, rfl⟩
  · have hp : 0 < a ∧ 0 < b ∧ 0 < c := by
      have h9 : (0 : Int) < (M : Int) := by omega
      rw [← hM] at h9
      revert h9; (repeat' split) <;> intro h9 <;> omega
    obtain ⟨p1, p2, p3⟩ := hp
    have hq := prod_div h p2 p3
    obtain ⟨Q, hQ⟩ : ∃ Q, most / b = Q := ⟨_, rfl⟩
    obtain ⟨R, hR⟩ : ∃ R, Q / c = R := ⟨_, rfl⟩
    obtain ⟨X, hX⟩ : ∃ X, a * b = X := ⟨_, rfl⟩
    obtain ⟨Y, hY⟩ : ∃ Y, X * c = Y := ⟨_, rfl⟩
    have hQm : Q ≤ 2147483648 := by rw [← hQ]; exact Nat.le_trans (Nat.div_le_self _ _) hm
    have hRm : R ≤ 2147483648 := by rw [← hR]; exact Nat.le_trans (Nat.div_le_self _ _) hQm
    rw [hX, hY] at h
    have hXm : X ≤ 2147483648 := by
      have : X ≤ X * c := Nat.le_mul_of_pos_right _ p3
      omega
    rw [hQ, hR] at hq
    rw [hX, hY]
    have d1 : (most : Int) / (b : Int) = (Q : Int) := by rw [← hQ]; rfl
    have d2 : (most : Int).tdiv (b : Int) = (Q : Int) := by rw [← hQ]; rfl
    have d3 : (Q : Int) / (c : Int) = (R : Int) := by rw [← hR]; rfl
    have d4 : (Q : Int).tdiv (c : Int) = (R : Int) := by rw [← hR]; rfl
    have q1 : IntKind.i64.wrap ((a : Int) * (b : Int)) = (X : Int) := by rw [← Int.natCast_mul, hX]; exact IntWalk.i64_in _ (by omega)
    have q2 : IntKind.i64.wrap ((X : Int) * (c : Int)) = (Y : Int) := by rw [← Int.natCast_mul, hY]; exact IntWalk.i64_in _ (by omega)
    have hgt : ¬ (R : Int) < (a : Int) := by omega
    have hle : ¬ (M : Int) ≤ 0 := by omega
    have hbz : ¬ (b : Int) = 0 := by omega
    have hcz : ¬ (c : Int) = 0 := by omega
    clear hM hX hY hQ hR
    go_enter Tryz.func23, Tryz.ntmps23
    go_wp2
    go_ret2
    exact ⟨rfl, rfl⟩
set_option maxHeartbeats 4000000 in
theorem ppicked_calls {ok ok2 : Nat → Prop} (u : Value) (V : VV) (v : Value) (at_ : List Int) (n : Nat) (w : World) (hu : IsV w ok u V) (hok : V.ok) (hn : V.nm) (hb : ∀ a ∈ V.boxs, a.1.length ≤ 1048576) (hv : Slc w ok2 v n (ints at_)) (hl : at_.length = n) (hm : n ≤ 1048576) (hT : TabAt w) :
    Calls Tryz.prog 25 #[.agg #[u], v] w fun e w' => ∃ u', e = .returned (.agg #[u']) ∧ IsV w' (fun b => (ok b ∧ b < w.heap.size) ∨ w.heap.size ≤ b) u' (V.sel at_) ∧ Below w.heap.size w w' := by
  subst hl
  have hsu := hu.store
  obtain ⟨ao, cap, rfl, _⟩ := hv.opened
  have HOK := Lib.hid hok
  have HNM := Lib.hid hn
  have HBX := Lib.hid hb
  have HM := Lib.hid hm
  obtain ⟨W1, hW1⟩ : ∃ W1, W1 = (w.alloc (.cells #[u] 30)).alloc (.cells #[.nilIface] 30) := ⟨_, rfl⟩
  have HB := Lib.hid (show Below w.heap.size w W1 by rw [hW1]; exact (below_new _ _).alloc (by simp) _)
  have HA := Lib.hid (show At1 W1 w.heap.size u by rw [hW1]; exact (At1.new w _ _).below (below_new _ _))
  have HR := Lib.hid (show At1 W1 (w.heap.size + 1) .nilIface by rw [hW1]; have := At1.new (w.alloc (.cells #[u] 30)) .nilIface 30; simpa using this)
  have HU := Lib.hid (show IsV W1 (fun b => ok b ∧ b < w.heap.size) u V from (hu.wide (ok' := fun b => ok b ∧ b < w.heap.size) (fun b hb h => ⟨h, hb⟩)).grow HB.out)
  have HT := Lib.hid (show TabAt W1 from fun j hj => keep_below HB.out _ _ (hT j hj))
  have HWS := Lib.hid (show W1.heap.size = w.heap.size + 2 by rw [hW1]; simp)
  have HW1 := Lib.hid (Below.refl W1.heap.size W1)
  have HVT := Lib.hid (show Slc W1 (fun b => ok2 b) _ at_.length (ints at_) from hv.below HB.out)
  have hfold := hW1.symm
  have h9 : (at_.length : Int) ≤ 1048576 := by omega
  clear hu hT hv hok hn hb hm hW1
  have cHA0 := HA.out.2.1
  have cHR0 := HR.out.2.1
  have zHR0 := HR.out.2.2 0
  go_enter Tryz.func25, Tryz.ntmps25
  go_wp2_with fail
  clear hfold
  have HOS := Lib.hid HW1.out.size
  refine (pick_calls _ V _ at_ _ HU.out HOK.out HNM.out HBX.out HVT.out HM.out HT.out).mono ?_
  rintro e W11 ⟨ur, rfl, hur, hB⟩
  clear cHA0 cHR0 zHR0
  replace HB := Lib.hid (HB.out.trans (hB.mono HB.out.size))
  replace HW1 := Lib.hid (HW1.out.trans (hB.mono HW1.out.size))
  replace HT := Lib.hid (fun j hj => keep_below hB _ _ (HT.out j hj))
  replace HU := Lib.hid (HU.out.grow hB)
  replace HVT := Lib.hid (HVT.out.below hB)
  replace HA := Lib.hid (HA.out.below hB)
  replace HR := Lib.hid (HR.out.below hB)
  have HUR := Lib.hid (show IsV W11 (fun b => ((ok b ∧ b < w.heap.size) ∨ w.heap.size ≤ b) ∧ b ≠ w.heap.size + 1) ur (V.sel (at_)) from hur.wide (fun b _ h => by
    have h5 := HOS.out
    have h6 := HWS.out
    rcases h with h | h
    · exact ⟨Or.inl h.1, by have := h.1.2; omega⟩
    · exact ⟨Or.inr (by omega), by omega⟩))
  have hsr := hur.store
  clear hur
  clear hB
  have cHA0 := HA.out.2.1
  have cHR0 := HR.out.2.1
  have zHR0 := HR.out.2.2 0
  go_wp2_with fail
  refine bodyPost_ret (v := .agg #[ur]) (by simp [results, Tryz.results25, go_sem, cHR0]) rfl ⟨ur, rfl, ?_, HB.out.setCell (by show w.heap.size ≤ w.heap.size + 1; omega) _⟩
  exact HUR.out.keep (Kept.setCell _ _ _ (fun h => h.2 rfl)) (fun b _ h => h.1)

set_option maxHeartbeats 8000000 in
theorem palong_calls {ok ok2 : Nat → Prop} (u : Value) (V : VV) (v : Value) (at_ : List Int) (outer n inner : Nat) (w : World) (hu : IsV w ok u V) (hok : V.ok) (hn : V.nm) (hb : ∀ a ∈ V.boxs, a.1.length ≤ 1048576) (hk0 : V.kind ≠ 0) (hv : Slc w ok2 v at_.length (ints at_)) (hlen : V.len = outer * n * inner) (htot : outer * at_.length * inner ≤ 1048576) (hi0 : 0 < inner)
    (ho : outer ≤ 1048576) (hnn : n ≤ 1048576) (hii : inner ≤ 1048576) (hat : at_.length ≤ 1048576) (hat2 : ∀ z ∈ at_, -9223372036854775808 ≤ z ∧ z ≤ 9223372036854775807) (hT : TabAt w) :
    Calls Tryz.prog 7 #[.agg #[u], .int .i64 (outer : Int), .int .i64 (n : Int), .int .i64 (inner : Int), v] w fun e w' => ∃ u', e = .returned (.agg #[u']) ∧ IsV w' (fun _ => True) u' (V.sel (alZ outer n inner at_)) ∧ Below w.heap.size w w' := by
  have hsu := hu.store
  obtain ⟨ao, cap, rfl, _⟩ := hv.opened
  have HOK := Lib.hid hok
  have HNM := Lib.hid hn
  have HBX := Lib.hid hb
  have HLE := Lib.hid hlen
  have HTO := Lib.hid htot
  have HLM := Lib.hid (VV.ok_len hok)
  obtain ⟨W1, hW1⟩ : ∃ W1, W1 = (w.alloc (.cells #[u] 30)).alloc (.cells #[.nilIface] 30) := ⟨_, rfl⟩
  have HB := Lib.hid (show Below w.heap.size w W1 by rw [hW1]; exact (below_new _ _).alloc (by simp) _)
  have HA := Lib.hid (show At1 W1 w.heap.size u by rw [hW1]; exact (At1.new w _ _).below (below_new _ _))
  have HR := Lib.hid (show At1 W1 (w.heap.size + 1) .nilIface by rw [hW1]; have := At1.new (w.alloc (.cells #[u] 30)) .nilIface 30; simpa using this)
  have HU := Lib.hid (show IsV W1 (fun b => ok b ∧ b < w.heap.size) u V from (hu.wide (ok' := fun b => ok b ∧ b < w.heap.size) (fun b hb h => ⟨h, hb⟩)).grow HB.out)
  have HT := Lib.hid (show TabAt W1 from fun j hj => keep_below HB.out _ _ (hT j hj))
  have HWS := Lib.hid (show W1.heap.size = w.heap.size + 2 by rw [hW1]; simp)
  have HW1 := Lib.hid (Below.refl W1.heap.size W1)
  have HVT := Lib.hid (show Slc W1 (fun b => ok2 b) _ at_.length (ints at_) from hv.below HB.out)
  have hfold := hW1.symm
  obtain ⟨T, hTT⟩ : ∃ T, outer * at_.length * inner = T := ⟨_, rfl⟩
  obtain ⟨NV, hNV⟩ : ∃ NV, V.len = NV := ⟨_, rfl⟩
  obtain ⟨kd, hkd⟩ : ∃ kd, V.kind = kd := ⟨_, rfl⟩
  have HTT := Lib.hid hTT
  have HNV := Lib.hid hNV
  have HKD := Lib.hid hkd
  have hkz : (kd == 0) = false := by rw [hkd] at hk0; simpa using hk0
  have hlz : ((NV : Int) != (NV : Int)) = false := by simp
  have HP1 := Lib.hid (show outer * n * inner ≤ NV by omega)
  have HP2 := Lib.hid (show outer * at_.length * inner ≤ 268435455 by omega)
  have HO := Lib.hid ho
  have HN := Lib.hid hnn
  have HI := Lib.hid hii
  have HA9 := Lib.hid hat
  have HA8 := Lib.hid hat2
  have hNVm : NV ≤ 1048576 := by rw [← hNV]; exact HLM.out
  have HNVm := Lib.hid hNVm
  clear hu hT hv hok hn hb hlen htot hW1 hTT hNV hkd hk0 ho hnn hii hat hat2
  have cHA0 := HA.out.2.1
  have cHR0 := HR.out.2.1
  have zHR0 := HR.out.2.2 0
  go_enter Tryz.func7, Tryz.ntmps7
  go_wp2_with fail
  clear hfold
  refine (vlen_calls _ V _ HU.out).mono ?_
  rintro e W11 ⟨rfl, hB⟩
  clear cHA0 cHR0 zHR0
  replace HB := Lib.hid (HB.out.trans (hB.mono HB.out.size))
  replace HW1 := Lib.hid (HW1.out.trans (hB.mono HW1.out.size))
  replace HT := Lib.hid (fun j hj => keep_below hB _ _ (HT.out j hj))
  replace HU := Lib.hid (HU.out.grow hB)
  replace HVT := Lib.hid (HVT.out.below hB)
  replace HA := Lib.hid (HA.out.below hB)
  replace HR := Lib.hid (HR.out.below hB)
  rw [HNV.out]
  clear hB
  have cHA0 := HA.out.2.1
  have cHR0 := HR.out.2.1
  go_wp2_with fail
  refine (pproduct_calls outer n inner NV _ HP1.out (by have := HNVm.out; omega) HO.out HN.out HI.out).mono ?_
  rintro e w1 ⟨rfl, rfl⟩
  rw [show outer * n * inner = NV by rw [← HLE.out, HNV.out]]
  go_wp2_with fail
  refine (pproduct_calls outer at_.length inner 268435455 _ HP2.out (by omega) HO.out HA9.out HI.out).mono ?_
  rintro e w1 ⟨rfl, rfl⟩
  rw [HTT.out]
  go_wp2_with fail
  refine (kind_calls _ V _ HU.out).mono ?_
  rintro e W12 ⟨rfl, hB⟩
  clear cHA0 cHR0
  replace HB := Lib.hid (HB.out.trans (hB.mono HB.out.size))
  replace HW1 := Lib.hid (HW1.out.trans (hB.mono HW1.out.size))
  replace HT := Lib.hid (fun j hj => keep_below hB _ _ (HT.out j hj))
  replace HU := Lib.hid (HU.out.grow hB)
  replace HVT := Lib.hid (HVT.out.below hB)
  replace HA := Lib.hid (HA.out.below hB)
  replace HR := Lib.hid (HR.out.below hB)
  rw [HKD.out]
  clear hB
  have cHA0 := HA.out.2.1
  have cHR0 := HR.out.2.1
  go_wp2_with fail
  refine (vlen_calls _ V _ HU.out).mono ?_
  rintro e W13 ⟨rfl, hB⟩
  clear cHA0 cHR0
  replace HB := Lib.hid (HB.out.trans (hB.mono HB.out.size))
  replace HW1 := Lib.hid (HW1.out.trans (hB.mono HW1.out.size))
  replace HT := Lib.hid (fun j hj => keep_below hB _ _ (HT.out j hj))
  replace HU := Lib.hid (HU.out.grow hB)
  replace HVT := Lib.hid (HVT.out.below hB)
  replace HA := Lib.hid (HA.out.below hB)
  replace HR := Lib.hid (HR.out.below hB)
  rw [HNV.out]
  clear hB
  have hTm : T ≤ 1048576 := by rw [← HTT.out]; exact HTO.out
  obtain ⟨xs, hxs⟩ : ∃ xs : List Value, xs = ints (alZ outer n inner at_) := ⟨_, rfl⟩
  have hxl : xs.length = T := by rw [hxs, ints_len, alZ_len, HTT.out]
  have hget : ∀ k (h : k < xs.length), xs[k]'h = .int .i64 (alF n inner at_ k) := by intro k h; simp [hxs, ints, alZ]
  have HX := Lib.hid hget
  have HXS := Lib.hid hxs
  have HXL := Lib.hid hxl
  have hmk := run_mkI3 T (by omega) W13
  clear hxs hget hxl
  obtain ⟨g, hg⟩ : ∃ g, W13.heap.size = g := ⟨_, rfl⟩
  have HG0 := Lib.hid hg
  obtain ⟨W0, hW0⟩ : ∃ W0, W0 = W13.alloc (.cells (zerosV (.int .i64 0) T) 3) := ⟨_, rfl⟩
  have HO0 : Hid (W0.ownsRow W13.heap.size 3 1 (.slice (some ⟨W13.heap.size, 0, none⟩) T T) T (List.replicate T (.int .i64 0))) := Lib.hid (by rw [hW0]; exact own_make1 _ _ _ (by omega) _ _ (Nat.le_refl _))
  have HW := Lib.hid (show Below W13.heap.size W13 W0 by rw [hW0]; exact below_new _ _)
  clear hg
  have cHA0 := HA.out.2.1
  have cHR0 := HR.out.2.1
  have zHR0 := HR.out.2.2 0
  go_wp2_with fail
  rw [← hW0]
  clear hW0 hmk hkz hlz
  clear cHA0 cHR0 zHR0
  go_loopw [57] (fun i wr => ∃ k : Nat, k ≤ T ∧ i = .int .i64 k ∧ wr.ownsRow W13.heap.size 3 1 (.slice (some ⟨W13.heap.size, 0, none⟩) T T) T (fillTo xs (.int .i64 0) k) ∧ W0.grownBy wr (some W13.heap.size)) (fun i _ => T - (intOf i).toNat)
  case atStart => exact ⟨0, by omega, rfl, by rw [fillTo_zero, HXL.out]; exact HO0.out, grown_refl _ _⟩
  case round =>
    obtain ⟨k, hk, rfl, hown, hgr⟩ := hrel
    have HO := Lib.hid hown
    have HG := Lib.hid hgr
    have HBk := Lib.hid (HW.out.grown hgr HW.out.size (fun j hj => by cases hj; omega))
    have hn9 := HN.out
    have hi9 := HI.out
    have ha9 := HA9.out
    by_cases hlt : k < T
    · have hcw := owns_cell HO.out k (by rw [fillTo_len _ _ _ (by rw [HXL.out]; exact hk), HXL.out]; exact hlt)
      have hfr := World.ownsRow.frozenAt HO.out k
      have HXK := Lib.hid (HX.out k (by rw [HXL.out]; exact hlt))
      clear hown hgr
      obtain ⟨m, hm⟩ : ∃ m, at_.length = m := ⟨_, rfl⟩
      have HM := Lib.hid hm
      have hm0 : 0 < m := by rcases Nat.eq_zero_or_pos m with h9 | h9
                             · have h8 := HTT.out; rw [hm, h9] at h8; simp at h8; omega
                             · exact h9
      obtain ⟨a, ha⟩ : ∃ a, k / inner = a := ⟨_, rfl⟩
      obtain ⟨c, hc⟩ : ∃ c, k % inner = c := ⟨_, rfl⟩
      obtain ⟨i, hi⟩ : ∃ i, a % m = i := ⟨_, rfl⟩
      obtain ⟨o, ho⟩ : ∃ o, a / m = o := ⟨_, rfl⟩
      have hak : a ≤ k := by rw [← ha]; exact Nat.div_le_self _ _
      have hci : c < inner := by rw [← hc]; exact Nat.mod_lt _ hi0
      have him : i < m := by rw [← hi]; exact Nat.mod_lt _ hm0
      have hoa : o ≤ a := by rw [← ho]; exact Nat.div_le_self _ _
      have e1 : (k : Int) / (inner : Int) = (a : Int) := by rw [← ha]; rfl
      have e2 : (k : Int).tdiv (inner : Int) = (a : Int) := by rw [← ha]; rfl
      have e3 : (k : Int) % (inner : Int) = (c : Int) := by rw [← hc]; rfl
      have e4 : (k : Int).tmod (inner : Int) = (c : Int) := by rw [← hc]; rfl
      have e5 : (a : Int) / (m : Int) = (o : Int) := by rw [← ho]; rfl
      have e6 : (a : Int).tdiv (m : Int) = (o : Int) := by rw [← ho]; rfl
      have e7 : (a : Int) % (m : Int) = (i : Int) := by rw [← hi]; rfl
      have e8 : (a : Int).tmod (m : Int) = (i : Int) := by rw [← hi]; rfl
      have hz1 : ¬ (inner : Int) = 0 := by omega
      have hz2 : ¬ (m : Int) = 0 := by omega
      obtain ⟨b, off, cap1, x, e, hx, c0⟩ := Slc.at_map (Value.int .i64) (HVT.out.below (HBk.out.setCell (p := ⟨W13.heap.size, k, none⟩) (Nat.le_refl _) (.int .i64 (-1)))) i (by rw [hm]; exact him)
      cases e
      have HKF := Lib.hid (show alF n inner at_ k = if 0 ≤ x ∧ x < (n : Int) then (((o * n : Nat) : Int) + x) * (inner : Int) + (c : Int) else -1 by unfold alF; rw [ha, hm, hi, ho, hc, getD_at2 hx])
      have hkT : k < outer * m * inner := by rw [← hm, HTT.out]; exact hlt
      have hoo : o < outer := by rw [← ho, ← ha, Nat.div_div_eq_div_mul, Nat.div_lt_iff_lt_mul (Nat.mul_pos hi0 hm0), Nat.mul_comm inner m, ← Nat.mul_assoc]; exact hkT
      have hx8 := HA8.out x (by obtain ⟨h1, h2⟩ := List.getElem?_eq_some_iff.1 hx; rw [← h2]; exact List.getElem_mem h1)
      clear ha hc hi ho hx hkT HG0
      rw [hm]
      by_cases hin : 0 ≤ x ∧ x < (n : Int)
      · have hi1 := hin.1
        have hi2 := hin.2
        obtain ⟨j, hj1, hj2, hj3⟩ := al_in (n := n) (inner := inner) hi1 hi2 hoo hci
        replace HKF := Lib.hid (HKF.out.trans ((if_pos hin).trans hj1))
        obtain ⟨xn, rfl⟩ := Int.eq_ofNat_of_zero_le hi1
        rw [Int.toNat_natCast] at hj3
        have hj4 : j ≤ 1048576 := by have h8 := HLE.out; have h7 := HNV.out; have h6 := HNVm.out; rw [Nat.mul_comm n outer] at hj2; omega
        obtain ⟨P, hP⟩ : ∃ P, o * n = P := ⟨_, rfl⟩
        obtain ⟨S, hS⟩ : ∃ S, P + xn = S := ⟨_, rfl⟩
        obtain ⟨Y, hY⟩ : ∃ Y, S * inner = Y := ⟨_, rfl⟩
        rw [hP, hS, hY] at hj3
        have hSY : S ≤ Y := by rw [← hY]; exact Nat.le_mul_of_pos_right _ hi0
        have qP : IntKind.i64.wrap ((o : Int) * (n : Int)) = (P : Int) := by rw [← Int.natCast_mul, hP]; exact IntWalk.i64_in _ (by omega)
        have qS : (P : Int) + (xn : Int) = (S : Int) := by omega
        have qY : IntKind.i64.wrap ((S : Int) * (inner : Int)) = (Y : Int) := by rw [← Int.natCast_mul, hY]; exact IntWalk.i64_in _ (by omega)
        have qJ : (Y : Int) + (c : Int) = (j : Int) := by omega
        clear hj1 hj2 hj3 hP hS hY
        go_wp2_with fail
        refine (phas_yes _ _ _ hi1 hi2).mono ?_
        rintro e w1 ⟨rfl, rfl⟩
        obtain ⟨W1', hW1'⟩ : ∃ W1', wr.setCell ⟨W13.heap.size, k, none⟩ (.int .i64 (-1)) = W1' := ⟨_, rfl⟩
        rw [hW1'] at c0 ⊢
        have HO1 := Lib.hid (show W1'.ownsRow W13.heap.size 3 1 (.slice (some ⟨W13.heap.size, 0, none⟩) T T) T ((fillTo xs (.int .i64 0) k).set k (.int .i64 (-1))) by rw [← hW1']; exact (World.ownsRow.stored HO.out k (.int .i64 (-1))).1)
        have HG1 := Lib.hid (show W0.grownBy W1' (some W13.heap.size) by rw [← hW1']; exact grown_trans HG.out (grown_setCell _ ⟨W13.heap.size, k, none⟩ _))
        clear hcw hfr hW1'
        have hcw := owns_cell HO1.out k (by rw [List.length_set, fillTo_len _ _ _ (by rw [HXL.out]; exact hk), HXL.out]; exact hlt)
        have hfr := World.ownsRow.frozenAt HO1.out k
        go_wp2_with fail
        have hz3 : ¬ inner = 0 := by omega
        have hz4 : ¬ m = 0 := by omega
        have qa : IntKind.i64.wrap (a : Int) = (a : Int) := IntWalk.i64_in _ (by omega)
        have qo : IntKind.i64.wrap (o : Int) = (o : Int) := IntWalk.i64_in _ (by omega)
        have qc : IntKind.i64.wrap (c : Int) = (c : Int) := IntWalk.i64_in _ (by omega)
        have qj : IntKind.i64.wrap (j : Int) = (j : Int) := IntWalk.i64_in _ (by omega)
        have qs : IntKind.i64.wrap (S : Int) = (S : Int) := IntWalk.i64_in _ (by omega)
        refine still_tail 19 (by kernel_rfl) (by kernel_rfl) ?_
        simp only [List.take_succ_cons, List.take_zero, List.drop_succ_cons, List.drop_zero]
        repeat (refine wpStill_step (fun K hK => ?_); go_simp; refine hK _ ?_; clear hK K)
        refine wpStill_nil ?_
        go_wp2
        go_roundw
        case rel =>
          refine ⟨k + 1, by omega, by go_num, ?_, grown_drew (grown_trans HG1.out (grown_setCell _ ⟨W13.heap.size, k, none⟩ _))⟩
          rw [HKF.out] at HXK
          have := (World.ownsRow.stored HO1.out k (.int .i64 (j : Int))).1
          rw [List.set_set, ← HXK.out, fillTo_set] at this
          rw [← HXK.out]
          exact this.drew
        case measure => simp [intOf]; omega
      · replace HKF := Lib.hid (HKF.out.trans (if_neg hin))
        go_wp2_with fail
        refine (phas_no _ _ _ hin).mono ?_
        rintro e w1 ⟨rfl, rfl⟩
        go_wp2
        go_roundw
        case rel =>
          refine ⟨k + 1, by omega, by go_num, ?_, grown_trans HG.out (grown_setCell _ ⟨W13.heap.size, k, none⟩ _)⟩
          rw [HKF.out] at HXK
          have := (World.ownsRow.stored HO.out k (.int .i64 (-1))).1
          rw [← HXK.out, fillTo_set] at this
          rw [← HXK.out]
          exact this
        case measure => simp [intOf]; omega
    · have hkl : k = T := by omega
      have HK := Lib.hid hkl
      clear hown hgr
      have HZ := Lib.hid (show Slc wr (fun _ => True) (.slice (some ⟨W13.heap.size, 0, none⟩) T T) T (ints (alZ outer n inner at_)) by
        have h1 := (Slc.owned HO.out).any
        rw [HK.out, ← HXL.out, fillTo_all, HXL.out, HXS.out] at h1
        exact h1)
      have hB := HBk.out
      clear hkl
      replace HB := Lib.hid (HB.out.trans (hB.mono HB.out.size))
      replace HW1 := Lib.hid (HW1.out.trans (hB.mono HW1.out.size))
      replace HT := Lib.hid (fun j hj => keep_below hB _ _ (HT.out j hj))
      replace HU := Lib.hid (HU.out.grow hB)
      replace HVT := Lib.hid (HVT.out.below hB)
      replace HA := Lib.hid (HA.out.below hB)
      replace HR := Lib.hid (HR.out.below hB)
      clear hB
      have cHA0 := HA.out.2.1
      have cHR0 := HR.out.2.1
      have zHR0 := HR.out.2.2 0
      go_wp2_with fail
      have HOS := Lib.hid HW1.out.size
      refine (ppicked_calls _ V _ (alZ outer n inner at_) T _ HU.out HOK.out HNM.out HBX.out HZ.out (by rw [alZ_len, HTT.out]) (by rw [← HTT.out]; exact HTO.out) HT.out).mono ?_
      rintro e W14 ⟨ur, rfl, hur, hB⟩
      clear cHA0 cHR0 zHR0
      replace HB := Lib.hid (HB.out.trans (hB.mono HB.out.size))
      replace HW1 := Lib.hid (HW1.out.trans (hB.mono HW1.out.size))
      replace HT := Lib.hid (fun j hj => keep_below hB _ _ (HT.out j hj))
      replace HU := Lib.hid (HU.out.grow hB)
      replace HVT := Lib.hid (HVT.out.below hB)
      replace HA := Lib.hid (HA.out.below hB)
      replace HR := Lib.hid (HR.out.below hB)
      replace HZ := Lib.hid (HZ.out.below hB)
      have HUR := Lib.hid (show IsV W14 (fun b => ((ok b ∧ b < w.heap.size) ∨ w.heap.size ≤ b) ∧ b ≠ w.heap.size + 1) ur (V.sel (alZ outer n inner at_)) from hur.wide (fun b _ h => by
        have h5 := HOS.out
        have h6 := HWS.out
        rcases h with h | h
        · exact ⟨Or.inl h.1, by have := h.1.2; omega⟩
        · exact ⟨Or.inr (by omega), by omega⟩))
      have hsr := hur.store
      clear hur
      clear hB
      have cHA0 := HA.out.2.1
      have cHR0 := HR.out.2.1
      have zHR0 := HR.out.2.2 0
      go_wp2_with fail
      refine bodyPost_ret (v := .agg #[ur]) (by simp [results, Tryz.results7, go_sem, cHR0]) rfl ⟨ur, rfl, ?_, HB.out.setCell (by show w.heap.size ≤ w.heap.size + 1; omega) _⟩
      exact HUR.out.keep (Kept.setCell _ _ _ (fun h => h.2 rfl)) (fun b _ h => trivial)
end Go.Proofs.YtpcighgflolojaaGreatDoor

/- Layer 15, walked: the reference's Along. -/
namespace Go.Proofs.YtpcighgflolojaaGreatDoor
set_option maxRecDepth 100000
open Go.RowKit Fl
set_option linter.unusedVariables false

theorem al_lt {m inner o outer i k : Nat} (ho : o < outer) (hi : i < m) (hk : k < inner) : (o * m + i) * inner + k < outer * m * inner := by
  have h3 : o * m + i + 1 ≤ outer * m := by
    have : (o + 1) * m ≤ outer * m := Nat.mul_le_mul_right _ ho
    rw [Nat.add_mul, Nat.one_mul] at this; omega
  have h4 : (o * m + i + 1) * inner ≤ outer * m * inner := Nat.mul_le_mul_right _ h3
  rw [Nat.add_mul, Nat.one_mul] at h4
  omega
theorem getD_at3 {l : List Int} {k : Nat} {x : Int} (h : l[k]? = some x) : l.getD k 0 = x := by rw [List.getD_eq_getElem?_getD, h]; rfl
set_option maxHeartbeats 8000000 in
theorem ralong_calls {ok ok2 : Nat → Prop} (lv : Value) (l : List PI) (c : Int) (hc : c = 0 ∨ c = 1 ∨ c = 2) (outer n inner : Nat) (v : Value) (at_ : List Int) (w : World) (hl : Its w ok lv l) (hv : Slc w ok2 v at_.length (ints at_)) (hlen : l.length = n * outer * inner) (hm2 : l.length ≤ 1048576) (htot : outer * at_.length * inner ≤ 1048576)
    (ho : outer ≤ 1048576) (hn : n ≤ 1048576) (hi : inner ≤ 1048576) (hat : at_.length ≤ 1048576) :
    Calls Tryz.prog 9 #[lv, .int .i64 c, .int .i64 (outer : Int), .int .i64 (n : Int), .int .i64 (inner : Int), v] w fun e w' => ∃ u, e = .returned u ∧ Its w' (fun _ => True) u ((alZ outer n inner at_).map (atI l (blankI c))) ∧ Below w.heap.size w w' := by
  obtain ⟨G, hG⟩ : ∃ G : Nat → PI, G = fun t => atI l (blankI c) (alF n inner at_ t) := ⟨_, rfl⟩
  have HGE := Lib.hid (show ∀ t, G t = atI l (blankI c) (alF n inner at_ t) from fun t => by rw [hG])
  have hmap : (alZ outer n inner at_).map (atI l (blankI c)) = (List.range (outer * at_.length * inner)).map G := by rw [hG]; unfold alZ; rw [List.map_map]; rfl
  rw [hmap]
  have HL := Lib.hid hl.lt
  have HV := Lib.hid hv.lt
  have HC := Lib.hid hc
  have HLE := Lib.hid hlen
  have HLM := Lib.hid hm2
  have HTO := Lib.hid htot
  obtain ⟨lo_, lc, rfl, _, _⟩ := hl.len
  obtain ⟨m, hm⟩ : ∃ m, at_.length = m := ⟨_, rfl⟩
  have HM := Lib.hid hm
  rw [hm] at HV hv HTO hat ⊢
  obtain ⟨ao, cap, rfl, _⟩ := hv.opened
  clear hv hl hc hG hmap hlen hm2 htot hm
  obtain ⟨i0, hi, hz0, hz1, hz2⟩ := info_parts info_item
  have HI0 := Lib.hid (And.intro hi (And.intro hz0 (And.intro hz1 hz2)))
  have HR0 := Lib.hid (OutRel.start w (fun b => (ok b ∧ b < w.heap.size) ∨ w.heap.size ≤ b))
  clear hi hz0 hz1 hz2
  go_enter Tryz.func9, Tryz.ntmps9
  go_wp2_with fail
  go_loopw [13, 14] (fun v ix wr => ∃ (o : Nat) (L : List QI), o ≤ outer ∧ ix = .int .i64 (o : Int) ∧ OutRel w (fun b => (ok b ∧ b < w.heap.size) ∨ w.heap.size ≤ b) (o * m * inner) v L ((List.range (o * m * inner)).map G) wr) (fun _ ix _ => outer - (intOf ix).toNat)
  case atStart => exact ⟨0, [], by omega, rfl, by rw [Nat.zero_mul, Nat.zero_mul]; exact HR0.out⟩
  case round =>
    obtain ⟨o, L, ho, rfl, hR⟩ := hrel
    obtain ⟨vo, vc, rfl⟩ := owns_form hR.1
    have HR := Lib.hid hR
    clear hR
    by_cases hol : o < outer
    · go_wp2_with fail
      go_loopw [13, 15] (fun v ix wr => ∃ (i : Nat) (L : List QI), i ≤ m ∧ ix = .int .i64 (i : Int) ∧ OutRel w (fun b => (ok b ∧ b < w.heap.size) ∨ w.heap.size ≤ b) ((o * m + i) * inner) v L ((List.range ((o * m + i) * inner)).map G) wr) (fun _ ix _ => m - (intOf ix).toNat)
      case atStart => exact ⟨0, L, by omega, rfl, by rw [Nat.add_zero]; exact HR.out⟩
      case round =>
        clear HR
        obtain ⟨i, L, hi, rfl, hR⟩ := hrel
        obtain ⟨vo, vc, rfl⟩ := owns_form hR.1
        have HR := Lib.hid hR
        clear hR
        by_cases hil : i < m
        · go_wp2_with fail
          go_loopw [13, 16] (fun v ix wr => ∃ (kk : Nat) (L : List QI), kk ≤ inner ∧ ix = .int .i64 (kk : Int) ∧ OutRel w (fun b => (ok b ∧ b < w.heap.size) ∨ w.heap.size ≤ b) ((o * m + i) * inner + kk) v L ((List.range ((o * m + i) * inner + kk)).map G) wr) (fun _ ix _ => inner - (intOf ix).toNat)
          case atStart => exact ⟨0, L, by omega, rfl, by rw [Nat.add_zero]; exact HR.out⟩
          case round =>
            clear HR
            obtain ⟨kk, L, hkk, rfl, hR⟩ := hrel
            obtain ⟨vo, vc, rfl⟩ := owns_form hR.1
            have HR := Lib.hid hR
            clear hR
            by_cases hkl : kk < inner
            · obtain ⟨k, hke⟩ : ∃ k, (o * m + i) * inner + kk = k := ⟨_, rfl⟩
              have hkT : k + 1 ≤ 1048576 := by have h1 := al_lt (m := m) (inner := inner) (outer := outer) hol hil hkl; have h2 := HTO.out; omega
              have HAL := Lib.hid (alF_at (n := n) (o := o) HM.out hil hkl)
              have HKE := Lib.hid hke
              rw [hke] at HR HAL
              have HBr := Lib.hid HR.out.2.2
              have HSW := Lib.hid HR.out.2.2.size
              have HM1 : Hid (k + 1 ≤ maxLen) := Lib.hid (by unfold maxLen; omega)
              have HM2 : Hid ((k + 1) * 48 ≤ 140737488355328) := Lib.hid (by omega)
              have HRN := Lib.hid (show ∀ y, G k = y → (List.range ((o * m + i) * inner + (kk + 1))).map G = (List.range k).map G ++ [y] from fun y hy => by rw [← Nat.add_assoc, hke, List.range_succ, List.map_append, List.map_cons, List.map_nil, hy])
              obtain ⟨b, off, cap1, x, e, hx, c0⟩ := Slc.at_map (Value.int .i64) (l := at_) (by rw [HM.out]; exact HV.out.below HBr.out) i (by rw [HM.out]; exact hil)
              rw [HM.out] at e
              cases e
              rw [getD_at3 hx] at HAL
              rw [hke]
              clear hke hx
              by_cases hin : 0 ≤ x ∧ x < (n : Int)
              · have hi1 := hin.1
                have hi2 := hin.2
                obtain ⟨j, hj1, hj2, hj3⟩ := al_in (n := n) (inner := inner) (outer := outer) (k := kk) hi1 hi2 hol hkl
                have hjl : j < l.length := by rw [HLE.out]; exact hj2
                obtain ⟨y, hy⟩ : ∃ y, y = l[j] := ⟨_, rfl⟩
                have HY := Lib.hid (show l[j]? = some y by rw [hy]; exact List.getElem?_eq_getElem hjl)
                have HEQ := Lib.hid (show G k = y by rw [HGE.out, HAL.out, if_pos hin, hj1, hy]; exact atI_nat hjl)
                obtain ⟨xn, rfl⟩ := Int.eq_ofNat_of_zero_le hi1
                rw [Int.toNat_natCast] at hj3
                have hj4 : j ≤ 1048576 := by have := HLM.out; omega
                obtain ⟨P, hP⟩ : ∃ P, o * n = P := ⟨_, rfl⟩
                obtain ⟨S, hS⟩ : ∃ S, P + xn = S := ⟨_, rfl⟩
                obtain ⟨Y, hY⟩ : ∃ Y, S * inner = Y := ⟨_, rfl⟩
                rw [hP, hS, hY] at hj3
                have hSY : S ≤ Y := by rw [← hY]; exact Nat.le_mul_of_pos_right _ (by omega)
                have qP : IntKind.i64.wrap ((o : Int) * (n : Int)) = (P : Int) := by rw [← Int.natCast_mul, hP]; exact IntWalk.i64_in _ (by omega)
                have qS : (P : Int) + (xn : Int) = (S : Int) := by omega
                have qY : IntKind.i64.wrap ((S : Int) * (inner : Int)) = (Y : Int) := by rw [← Int.natCast_mul, hY]; exact IntWalk.i64_in _ (by omega)
                have qJ : (Y : Int) + (kk : Int) = (j : Int) := by omega
                obtain ⟨lb, loff, bo, bc, rfl, _, d0, d1, d2, d3, hbx⟩ := (HL.out.grow HBr.out).at HY.out
                have HBX := Lib.hid (show IsB wr (fun b => ((ok b ∧ b < w.heap.size) ∨ w.heap.size ≤ b) ∧ (Value.slice vo k vc).ownBlock ≠ some b) (.slice bo y.2.2.2.length bc) y.2.2.2 from hbx.wide (fun b _ h => ⟨Or.inl h, own_ne HR.out.1 h.2⟩))
                have HOC := Lib.hid (show Value.oneCell' (.slice bo y.2.2.2.length bc) = true from rfl)
                have hn1 : ¬ (xn : Int) < 0 := by omega
                have hn2 : ¬ (n : Int) ≤ (xn : Int) := by omega
                clear hin hy hbx hj1 hj2 hj3 hP hS hY
                obtain ⟨W4, hW4⟩ : ∃ W4, W4 = wr.alloc (.cells #[.int .i64 y.1, .float .f64 y.2.1, .int .i32 y.2.2.1, (.slice bo y.2.2.2.length bc)] 46) := ⟨_, rfl⟩
                have HB4 := Lib.hid (show Below wr.heap.size wr W4 by rw [hW4]; exact (Below.refl wr.heap.size wr).alloc ((Below.refl wr.heap.size wr).size) _)
                have HO4 := Lib.hid (show W4.ownsRow w.heap.size 46 4 (.slice vo k vc) k (flatI L) by rw [hW4]; exact (owns_below2 HR.out.1 (Below.refl wr.heap.size wr)).alloc _)
                have HN4 := Lib.hid (show ∀ j u, (quadV (y.1, y.2.1, y.2.2.1, (.slice bo y.2.2.2.length bc)))[j]? = some u → W4.cell? ((⟨wr.heap.size, 0, none⟩ : Addr).add j) = some u by rw [hW4]; exact cell_four_new _ _ _ _ _ _)
                have HSZ := Lib.hid (show w.heap.size ≤ W4.heap.size from Nat.le_trans HSW.out HB4.out.size)
                have HON := Lib.hid (show ∀ u ∈ quadV (y.1, y.2.1, y.2.2.1, (.slice bo y.2.2.2.length bc)), u.oneCell' = true by intro u hu; simp only [quadV, List.mem_cons, List.not_mem_nil, or_false] at hu; rcases hu with rfl | rfl | rfl | rfl <;> first | rfl | exact HOC.out)
                have HBX4 := Lib.hid (show IsB W4 (fun b => ((ok b ∧ b < w.heap.size) ∨ w.heap.size ≤ b) ∧ (Value.slice vo k vc).ownBlock ≠ some b) ((.slice bo y.2.2.2.length bc)) y.2.2.2 by rw [hW4]; exact IsB.keep (Kept.below (below_new _ _)) (fun _ _ h => h) HBX.out)
                have hfold4 := hW4.symm
                clear hW4
                go_wp2_with (at_builtin; refine wpList_append_blk _ rfl _ _ 23 rfl w.heap.size 46 i0 _ 4 48 Tryz.underlying23 HI0.out.1 HI0.out.2.1 HI0.out.2.2.1 HI0.out.2.2.2 rfl (by decide) _ k (flatI L) rfl HO4.out ⟨wr.heap.size, 0, none⟩ 1 1 (quadV (y.1, y.2.1, y.2.2.1, (.slice bo y.2.2.2.length bc))) rfl rfl HN4.out HON.out HM1.out HM2.out HSZ.out ?_)
                intro v' w5 hown hgrow hblk
                obtain ⟨ao', cap', rfl⟩ := owns_form hown
                have HS5 := Lib.hid (HR.out.step (x := y) HB4.out HBX4.out hown hgrow hblk)
                clear hown hgrow hblk hfold4
                go_wp2_with fail
                go_roundw
                case rel =>
                  refine ⟨kk + 1, L ++ [(y.1, y.2.1, y.2.2.1, .slice bo y.2.2.2.length bc)], by omega, by go_num, ?_⟩
                  rw [HRN.out _ HEQ.out, ← Nat.add_assoc, HKE.out]
                  exact HS5.out
                case measure => simp [intOf]; omega
              · have HEQ := Lib.hid (show G k = blankI c by rw [HGE.out, HAL.out, if_neg hin]; exact atI_neg (by omega))
                have hn : x < 0 ∨ (¬ x < 0 ∧ (n : Int) ≤ x) := by omega
                clear hin
                rcases hn with hn | ⟨hn, hn2⟩
                all_goals
                  go_wp2_with fail
                  refine (rblank_calls c HC.out _).mono ?_
                  rintro e W3 ⟨bx, rfl, hbx, hB3⟩
                  have HB3 := Lib.hid hB3
                  obtain ⟨bo, bc, rfl, _⟩ := hbx.len
                  have HBX := Lib.hid (show IsB W3 (fun b => ((ok b ∧ b < w.heap.size) ∨ w.heap.size ≤ b) ∧ (Value.slice vo k vc).ownBlock ≠ some b) (.slice bo (blankI c).2.2.2.length bc) (blankI c).2.2.2 from hbx.wide (fun b _ (h : wr.heap.size ≤ b) => ⟨Or.inr (Nat.le_trans HSW.out h), fun e => by have := (HR.out.1.lt b e).2; omega⟩))
                  have HOC := Lib.hid (show Value.oneCell' (.slice bo (blankI c).2.2.2.length bc) = true from rfl)
                  obtain ⟨y, hy⟩ : ∃ y, y = blankI c := ⟨_, rfl⟩
                  replace HEQ := Lib.hid (show G k = y by rw [hy]; exact HEQ.out)
                  rw [← hy] at HBX HOC ⊢
                  clear hbx hB3 hy
                  obtain ⟨W4, hW4⟩ : ∃ W4, W4 = W3.alloc (.cells #[.int .i64 y.1, .float .f64 y.2.1, .int .i32 y.2.2.1, (.slice bo y.2.2.2.length bc)] 46) := ⟨_, rfl⟩
                  have HB4 := Lib.hid (show Below wr.heap.size wr W4 by rw [hW4]; exact (HB3.out).alloc ((HB3.out).size) _)
                  have HO4 := Lib.hid (show W4.ownsRow w.heap.size 46 4 (.slice vo k vc) k (flatI L) by rw [hW4]; exact (owns_below2 HR.out.1 (HB3.out)).alloc _)
                  have HN4 := Lib.hid (show ∀ j u, (quadV (y.1, y.2.1, y.2.2.1, (.slice bo y.2.2.2.length bc)))[j]? = some u → W4.cell? ((⟨W3.heap.size, 0, none⟩ : Addr).add j) = some u by rw [hW4]; exact cell_four_new _ _ _ _ _ _)
                  have HSZ := Lib.hid (show w.heap.size ≤ W4.heap.size from Nat.le_trans HSW.out HB4.out.size)
                  have HON := Lib.hid (show ∀ u ∈ quadV (y.1, y.2.1, y.2.2.1, (.slice bo y.2.2.2.length bc)), u.oneCell' = true by intro u hu; simp only [quadV, List.mem_cons, List.not_mem_nil, or_false] at hu; rcases hu with rfl | rfl | rfl | rfl <;> first | rfl | exact HOC.out)
                  have HBX4 := Lib.hid (show IsB W4 (fun b => ((ok b ∧ b < w.heap.size) ∨ w.heap.size ≤ b) ∧ (Value.slice vo k vc).ownBlock ≠ some b) ((.slice bo y.2.2.2.length bc)) y.2.2.2 by rw [hW4]; exact IsB.keep (Kept.below (below_new _ _)) (fun _ _ h => h) HBX.out)
                  have hfold4 := hW4.symm
                  clear hW4
                  go_wp2_with (at_builtin; refine wpList_append_blk _ rfl _ _ 23 rfl w.heap.size 46 i0 _ 4 48 Tryz.underlying23 HI0.out.1 HI0.out.2.1 HI0.out.2.2.1 HI0.out.2.2.2 rfl (by decide) _ k (flatI L) rfl HO4.out ⟨W3.heap.size, 0, none⟩ 1 1 (quadV (y.1, y.2.1, y.2.2.1, (.slice bo y.2.2.2.length bc))) rfl rfl HN4.out HON.out HM1.out HM2.out HSZ.out ?_)
                  intro v' w5 hown hgrow hblk
                  obtain ⟨ao', cap', rfl⟩ := owns_form hown
                  have HS5 := Lib.hid (HR.out.step (x := y) HB4.out HBX4.out hown hgrow hblk)
                  clear hown hgrow hblk hfold4
                  go_wp2_with fail
                  go_roundw
                  case rel =>
                    refine ⟨kk + 1, L ++ [(y.1, y.2.1, y.2.2.1, .slice bo y.2.2.2.length bc)], by omega, by go_num, ?_⟩
                    rw [HRN.out _ HEQ.out, ← Nat.add_assoc, HKE.out]
                    exact HS5.out
                  case measure => simp [intOf]; omega
            · have hkl2 : kk = inner := by omega
              have HKL := Lib.hid hkl2
              clear hkl2
              go_wp2_with fail
              go_roundw
              case rel =>
                refine ⟨i + 1, L, by omega, by go_num, ?_⟩
                rw [← Nat.add_assoc, Nat.succ_mul]
                have := HR.out
                rw [HKL.out] at this ⊢
                exact this
              case measure => simp [intOf]; omega
        · have hil2 : i = m := by omega
          have HIL := Lib.hid hil2
          clear hil2
          go_wp2_with fail
          go_roundw
          case rel =>
            refine ⟨o + 1, L, by omega, by go_num, ?_⟩
            rw [Nat.succ_mul]
            have := HR.out
            rw [HIL.out] at this ⊢
            exact this
          case measure => simp [intOf]; omega
    · have hol2 : o = outer := by omega
      have HOL := Lib.hid hol2
      clear hol2
      go_wp2_with fail
      go_ret
      refine ⟨.slice vo (o * m * inner) vc, rfl, ?_, HR.out.2.2⟩
      have := HR.out.its
      rw [HOL.out] at this ⊢
      exact this.wide (fun _ _ _ => trivial)
end Go.Proofs.YtpcighgflolojaaGreatDoor

/- Layer 15: a part of a plain array. -/
namespace Go.Proofs.YtpcighgflolojaaGreatDoor
set_option maxRecDepth 100000
open Go.RowKit Fl
set_option linter.unusedVariables false

theorem take_get {α : Type} {l : List α} {k i : Nat} {x : α} (h : (l.take k)[i]? = some x) : l[i]? = some x := by
  rw [List.getElem?_take] at h
  split at h
  · exact h
  · cases h
theorem Its.takem {w : World} {ok : Nat → Prop} {ao : Option Addr} {n cap : Nat} {l : List PI} (h : Its w ok (.slice ao n cap) l) (k : Nat) (hk : k ≤ l.length) : Its w ok (.slice ao k cap) (l.take k) := by
  obtain ⟨ao', cap', B, e, h1, h2, hc, hp⟩ := h
  cases e
  have hl : (l.take k).length = k := by rw [List.length_take]; omega
  exact ⟨ao, cap, B, by rw [hl], by omega, h2, fun i x hx => hc i x (take_get hx), fun i x hx => hp i x (take_get hx)⟩
theorem prod_one (K : Nat) (h : K ≤ 1048576) : prodR [(K : Int)] 1048576 = ((K : Int), 0) := by
  have := (gV_gA (d := 0) (V := .chars (List.replicate K 0)) ⟨by show (List.replicate K (0 : Int)).length ≤ 1048576; simpa using h, trivial, rfl, by simp [VV.boxs]⟩).1
  simpa [VV.len] using this
/-- The first items of a plain array, as a list. -/
def fstP (p : PA) (K : Nat) : PA := .mk [(K : Int)] (p.l.take K) p.f
theorem fstP_len {p : PA} {K : Nat} (h : K ≤ p.l.length) : (fstP p K).l.length = K := by show (p.l.take K).length = K; rw [List.length_take]; omega
theorem fstP_chk {d : Nat} {p : PA} {K : Nat} (h : chk (d + 1) p = 0) (hK : K ≤ p.l.length) (hm : K ≤ 1048576) : chk (d + 1) (fstP p K) = 0 := by
  rw [chk_well] at h ⊢
  obtain ⟨h1, h2, h3, h4⟩ := h
  refine ⟨h1, h2, ?_, fun x hx => h4 x (List.mem_of_mem_take hx)⟩
  rw [fstP_len hK]
  exact prod_one K hm
theorem fstP_lo {n : Nat} {p : PA} {K : Nat} (h : lo n p) : lo n (fstP p K) := by
  cases n with
  | zero => exact h
  | succ n => exact fun x hx => h x (List.mem_of_mem_take hx)
theorem fstP_is {w : World} {ok : Nat → Prop} {sh : Value} {ao : Option Addr} {n cap K : Nat} {p : PA} (hs : Slc w ok sh 1 (ints [(K : Int)])) (hi : Its w ok (.slice ao n cap) p.l) (hK : K ≤ p.l.length) : IsP w ok (.agg #[sh, .slice ao K cap, .int .i64 p.f]) (fstP p K) :=
  IsP.of (s := [(K : Int)]) hs (hi.takem K hK)
theorem len_chk {d : Nat} {p : PA} (h : chk (d + 1) p = 0) : p.l.length ≤ 1048576 := by
  have h1 := (chk_well.1 h).2.2.1
  exact (prodR_len h1).2
end Go.Proofs.YtpcighgflolojaaGreatDoor
