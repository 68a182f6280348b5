/- trouble.line, the reference's Show: lines of a text of runes. -/
import Derived.Test.YtnionifbhmfkoaaDoorTrG
import Derived.Test.YtnionifbhmfkoaaDoorFr
import Derived.Laws.Cover4
namespace Go.Proofs.YtnionifbhmfkoaaDoor
open Go.RowKit
set_option maxRecDepth 100000

/-- Where the line that holds place k begins. -/
def lst (zs : List Int) : Nat → Nat
  | 0 => 0
  | k + 1 => if zs[k]?.getD 0 = 10 then k + 1 else lst zs k
/-- .. and ends. -/
def lend (zs : List Int) (k : Nat) : Nat := k + ((zs.drop k).takeWhile (· != 10)).length
theorem lst_le (zs : List Int) : ∀ k, lst zs k ≤ k
  | 0 => Nat.le_refl _
  | k + 1 => by unfold lst; split; exact Nat.le_refl _; exact Nat.le_succ_of_le (lst_le zs k)
theorem lst_hit {zs : List Int} {k : Nat} (hk : k < zs.length) (h : zs[k] = 10) : lst zs (k + 1) = k + 1 := by
  unfold lst; rw [if_pos (by simp [hk, h])]
theorem lst_miss {zs : List Int} {k : Nat} (hk : k < zs.length) (h : zs[k] ≠ 10) : lst zs (k + 1) = lst zs k := by
  conv => lhs; unfold lst
  rw [if_neg (by simpa [hk] using h)]
theorem lend_end (zs : List Int) (k : Nat) (h : zs.length ≤ k) : lend zs k = k := by simp [lend, List.drop_eq_nil_of_le h]
theorem lend_hit {zs : List Int} {k : Nat} (hk : k < zs.length) (h : zs[k] = 10) : lend zs k = k := by
  rw [lend, List.drop_eq_getElem_cons hk, h]; simp
theorem lend_miss {zs : List Int} {k : Nat} (hk : k < zs.length) (h : zs[k] ≠ 10) : lend zs k = lend zs (k + 1) := by
  have hb : (zs[k] != 10) = true := by simpa using h
  rw [lend, List.drop_eq_getElem_cons hk, List.takeWhile_cons, if_pos hb, lend]
  simp only [List.length_cons]; omega
theorem lend_ge (zs : List Int) (k : Nat) : k ≤ lend zs k := Nat.le_add_right _ _
theorem takeWhile_le (p : Int → Bool) : ∀ l : List Int, (l.takeWhile p).length ≤ l.length
  | [] => by simp
  | a :: l => by
    rw [List.takeWhile_cons]
    split
    · simpa using takeWhile_le p l
    · simp
theorem lend_le (zs : List Int) (k : Nat) (h : k ≤ zs.length) : lend zs k ≤ zs.length := by
  have := takeWhile_le (fun x : Int => x != 10) (zs.drop k)
  simp only [List.length_drop] at this
  unfold lend; omega

/-- A row of runes, opened: an index has its cell. -/
theorem Row.runes {w : World} {v : Value} {zs : List Int} (hv : Row w v (zs.map (Value.int .i32))) :
    ∃ ao cap, v = .slice ao zs.length cap ∧ ∀ i (h : i < zs.length), ∃ b off, ao = some ⟨b, off, none⟩ ∧ w.cell? ⟨b, off + i, none⟩ = some (.int .i32 zs[i]) := by
  rcases hv with ⟨ao, cap, h0, rfl⟩ | ⟨b, off, cap, h0, rfl, hc⟩
  · have : zs = [] := by simpa using h0
    subst this
    exact ⟨ao, cap, rfl, fun i h => absurd h (by simp)⟩
  · exact ⟨_, cap, by simp, fun i h => ⟨b, off, rfl, by rw [hc i (by simpa using h)]; simp⟩⟩

set_option maxHeartbeats 1000000 in
theorem line_calls (v : Value) (zs : List Int) (k : Nat) (w : World) (hv : Row w v (zs.map (Value.int .i32))) (hm : zs.length ≤ maxLen) (hk : k ≤ zs.length) :
    Calls Tryd.prog 40 #[v, .int .i64 k] w fun e w' => e = .returned (.tuple #[.int .i64 (lst zs k), .int .i64 (lend zs k)]) ∧ w = w' := by
  unfold maxLen at hm
  obtain ⟨ao, cap, rfl, hcell⟩ := hv.runes
  have HC := Lib.hid hcell
  clear hcell hv
  go_enter Tryd.func40, Tryd.ntmps40
  go_wp2
  go_loop [4] (fun f => ∃ j : Nat, j ≤ k ∧ f = .int .i64 j ∧ lst zs j = lst zs k) (fun f => (intOf f).toNat)
  case atStart => exact ⟨k, Nat.le_refl _, rfl, rfl⟩
  case round =>
    obtain ⟨j, hj, rfl, hst⟩ := hrel
    have HST := Lib.hid hst
    clear hst
    rcases Nat.eq_zero_or_pos j with rfl | hpos
    · have HL := Lib.hid (show lst zs k = 0 from HST.out.symm)
      go_wp2
      go_loop [5] (fun t => ∃ q : Nat, k ≤ q ∧ q ≤ zs.length ∧ t = .int .i64 q ∧ lend zs q = lend zs k) (fun t => zs.length - (intOf t).toNat)
      case atStart => exact ⟨k, Nat.le_refl _, hk, rfl, rfl⟩
      case round =>
        obtain ⟨q, hq, hql, rfl, hen⟩ := hrel
        have HEN := Lib.hid hen
        clear hen
        by_cases hqq : q < zs.length
        · obtain ⟨b, off, rfl, hc⟩ := HC.out q hqq
          by_cases hne : zs[q] = 10
          · have HE := Lib.hid (show lend zs k = q by rw [← HEN.out, lend_hit hqq hne])
            go_wp2
            go_ret2
            exact ⟨by rw [HL.out, HE.out]; rfl, rfl⟩
          · have HE := Lib.hid (show lend zs (q + 1) = lend zs k by rw [← HEN.out, lend_miss hqq hne])
            go_wp2
            go_round
            case rel => exact ⟨q + 1, by omega, by omega, by go_num, HE.out⟩
            case measure => simp [intOf]; omega
        · have HE := Lib.hid (show lend zs k = q by rw [← HEN.out, lend_end zs q (by omega)])
          go_wp2
          go_ret2
          exact ⟨by rw [HL.out, HE.out]; rfl, rfl⟩
    · obtain ⟨j', rfl⟩ : ∃ j', j = j' + 1 := ⟨j - 1, by omega⟩
      have hlt : j' < zs.length := by omega
      obtain ⟨b, off, rfl, hc⟩ := HC.out j' hlt
      by_cases hne : zs[j'] = 10
      · have HL := Lib.hid (show lst zs k = j' + 1 by rw [← HST.out, lst_hit hlt hne])
        go_wp2
        go_loop [5] (fun t => ∃ q : Nat, k ≤ q ∧ q ≤ zs.length ∧ t = .int .i64 q ∧ lend zs q = lend zs k) (fun t => zs.length - (intOf t).toNat)
        case atStart => exact ⟨k, Nat.le_refl _, hk, rfl, rfl⟩
        case round =>
          obtain ⟨q, hq, hql, rfl, hen⟩ := hrel
          have HEN := Lib.hid hen
          clear hen
          by_cases hqq : q < zs.length
          · obtain ⟨b2, off2, e2, hc2⟩ := HC.out q hqq
            simp only [Option.some.injEq, Addr.mk.injEq, and_true] at e2
            obtain ⟨rfl, rfl⟩ := e2
            by_cases hne : zs[q] = 10
            · have HE := Lib.hid (show lend zs k = q by rw [← HEN.out, lend_hit hqq hne])
              go_wp2
              go_ret2
              exact ⟨by rw [HL.out, HE.out]; rfl, rfl⟩
            · have HE := Lib.hid (show lend zs (q + 1) = lend zs k by rw [← HEN.out, lend_miss hqq hne])
              go_wp2
              go_round
              case rel => exact ⟨q + 1, by omega, by omega, by go_num, HE.out⟩
              case measure => simp [intOf]; omega
          · have HE := Lib.hid (show lend zs k = q by rw [← HEN.out, lend_end zs q (by omega)])
            go_wp2
            go_ret2
            exact ⟨by rw [HL.out, HE.out]; rfl, rfl⟩
      · have HL := Lib.hid (show lst zs j' = lst zs k by rw [← HST.out, lst_miss hlt hne])
        go_wp2
        go_round
        case rel => exact ⟨j', by omega, by go_num, HL.out⟩
        case measure => simp [intOf]
end Go.Proofs.YtnionifbhmfkoaaDoor
