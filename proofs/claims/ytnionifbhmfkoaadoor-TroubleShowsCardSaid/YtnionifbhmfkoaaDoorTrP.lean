/- The reference's Show of a place in a text of runes. -/
import Derived.Test.YtnionifbhmfkoaaDoorTrO
import Derived.Test.YtnionifbhmfkoaaDoorTrH
namespace Go.Proofs.YtnionifbhmfkoaaDoor
open Go.RowKit
set_option maxRecDepth 100000

def encL (zs : List Int) : List UInt8 := zs.flatMap fun z => (Utf8.encode z).data.toList
theorem encL_len (zs : List Int) : (encL zs).length ≤ 4 * zs.length := by
  induction zs with
  | nil => simp [encL]
  | cons z zs ih =>
    have h := encode_size_le z
    have e : encL (z :: zs) = (Utf8.encode z).data.toList ++ encL zs := by simp [encL]
    have h3 : (Utf8.encode z).data.toList.length = (Utf8.encode z).size := rfl
    rw [e]; simp only [List.length_append, List.length_cons]; omega
theorem encL_snoc (zs : List Int) (z : Int) : encL (zs ++ [z]) = encL zs ++ (Utf8.encode z).data.toList := by simp [encL]
def seg (zs : List Int) (a b : Nat) : List Int := (zs.drop a).take (b - a)
theorem seg_nil (zs : List Int) (a : Nat) : seg zs a a = [] := by simp [seg]
theorem seg_snoc {zs : List Int} {a k : Nat} (ha : a ≤ k) (hk : k < zs.length) : seg zs a (k + 1) = seg zs a k ++ [zs[k]] := by
  unfold seg
  rw [show k + 1 - a = (k - a) + 1 by omega, List.take_succ_eq_append_getElem (by simp; omega)]
  congr 2
  simp only [List.getElem_drop]
  congr 1; omega
theorem seg_len (zs : List Int) (a b : Nat) : (seg zs a b).length ≤ b - a := by simp [seg]; omega
/-- What stands under a word. -/
def showL (c : Int) (zs : List Int) (k : Nat) : List UInt8 :=
  wordL c ++ [10] ++ encL (seg zs (lst zs k) (lend zs k)) ++ [10] ++ List.replicate (k - lst zs k) 32 ++ [94, 10]

set_option maxHeartbeats 1000000 in
theorem rshow_bad (v : Value) (c a : Int) (zs : List Int) (w : World) (hv : Row w v (zs.map (Value.int .i32))) (hm : zs.length ≤ maxLen) (hb : a < 0 ∨ zs.length < a ∨ 4096 < zs.length) :
    Calls Tryd.prog 27 #[.int .i64 c, .int .i64 a, v] w fun e w' => e = .returned (.string (wordB c ++ ⟨#[10]⟩)) ∧ Below w.heap.size w w' := by
  unfold maxLen at hm
  obtain ⟨ao, cap, rfl, _⟩ := hv.runes
  have HR := Lib.hid (refword_calls c w)
  have hwl := wordB_len c
  clear hv
  by_cases h1 : a < 0
  · clear hb
    go_enter Tryd.func27, Tryd.ntmps27
    go_wp2_with (go_at_call 18; refine (HR.out).mono ?_; rintro e w' ⟨rfl, hB⟩; have HB := Lib.hid hB; clear hB)
    go_ret
    exact ⟨rfl, HB.out⟩
  · by_cases h2 : (zs.length : Int) < a
    · clear hb
      go_enter Tryd.func27, Tryd.ntmps27
      go_wp2_with (go_at_call 18; refine (HR.out).mono ?_; rintro e w' ⟨rfl, hB⟩; have HB := Lib.hid hB; clear hB)
      go_ret
      exact ⟨rfl, HB.out⟩
    · have h3 : 4096 < zs.length := by omega
      clear hb
      go_enter Tryd.func27, Tryd.ntmps27
      go_wp2_with (go_at_call 18; refine (HR.out).mono ?_; rintro e w' ⟨rfl, hB⟩; have HB := Lib.hid hB; clear hB)
      go_ret
      exact ⟨rfl, HB.out⟩

set_option maxHeartbeats 4000000 in
theorem rshow_good (v : Value) (c : Int) (k : Nat) (zs : List Int) (w : World) (hv : Row w v (zs.map (Value.int .i32))) (hk : k ≤ zs.length) (hm : zs.length ≤ 4096) :
    Calls Tryd.prog 27 #[.int .i64 c, .int .i64 k, v] w fun e w' => e = .returned (.string ⟨(showL c zs k).toArray⟩) ∧ Below w.heap.size w w' := by
  obtain ⟨ao, cap, rfl, hcell⟩ := hv.runes
  have HC := Lib.hid hcell
  have HR := Lib.hid (refword_calls c w)
  have hwl := wordB_len c
  have hk' : (k : Int) ≤ zs.length := by omega
  clear hcell hv
  go_enter Tryd.func27, Tryd.ntmps27
  go_wp2_with (go_at_call 18; refine (HR.out).mono ?_; rintro e w1 ⟨rfl, hB⟩; have HB := Lib.hid hB; clear hB)
  go_loop [8, 9, 10] (fun l m i => ∃ q : Nat, q ≤ k ∧ i = .int .i64 q ∧ l = .string ⟨(encL (seg zs (lst zs q) q)).toArray⟩ ∧ m = .string ⟨(List.replicate (q - lst zs q) (32 : UInt8)).toArray⟩) (fun _ _ i => k - (intOf i).toNat)
  case atStart => exact ⟨0, Nat.zero_le _, rfl, rfl, rfl⟩
  case round =>
    obtain ⟨q, hq, rfl, rfl, rfl⟩ := hrel
    by_cases hlt : q < k
    · have hqz : q < zs.length := by omega
      obtain ⟨b, off, rfl, hc⟩ := HC.out q hqz
      have hc1 := keep_below HB.out _ _ hc
      have hle := lst_le zs q
      have b1 : (encL (seg zs (lst zs q) q)).length ≤ 16384 := Nat.le_trans (encL_len _) (by have := seg_len zs (lst zs q) q; omega)
      have b2 := encode_size_le zs[q]
      clear hc
      by_cases hne : zs[q] = 10
      · have HS := Lib.hid (lst_hit hqz hne)
        have b3 := encode_size_le 10
        go_wp2
        go_round
        case rel => exact ⟨q + 1, by omega, by go_num, by rw [HS.out, seg_nil]; rfl, by rw [HS.out]; simp⟩
        case measure => simp [intOf]; omega
      · have HS := Lib.hid (lst_miss hqz hne)
        have HS2 := Lib.hid (seg_snoc hle hqz)
        go_wp2
        go_round
        case rel =>
          refine ⟨q + 1, by omega, by go_num, ?_, ?_⟩
          · rw [HS.out, HS2.out, encL_snoc]
            exact congrArg Value.string (bs_eq (by simp [ByteArray.data_append]))
          · rw [HS.out, show q + 1 - lst zs q = (q - lst zs q) + 1 by omega]
            exact congrArg Value.string (bs_eq (by simp [ByteArray.data_append, List.replicate_succ']))
        case measure => simp [intOf]; omega
    · have : q = k := by omega
      subst this
      have hle := lst_le zs q
      go_wp2
      go_loop [8, 11] (fun l i => ∃ r : Nat, q ≤ r ∧ r ≤ zs.length ∧ i = .int .i64 r ∧ l = .string ⟨(encL (seg zs (lst zs q) r)).toArray⟩ ∧ lend zs r = lend zs q) (fun _ i => zs.length - (intOf i).toNat)
      case atStart => exact ⟨q, Nat.le_refl _, hk, rfl, rfl, rfl⟩
      case round =>
        obtain ⟨r, hqr, hr, rfl, rfl, hen⟩ := hrel
        have HEN := Lib.hid hen
        have b1 : (encL (seg zs (lst zs q) r)).length ≤ 16384 := Nat.le_trans (encL_len _) (by have := seg_len zs (lst zs q) r; omega)
        clear hen
        by_cases hrr : r < zs.length
        · obtain ⟨b, off, rfl, hc⟩ := HC.out r hrr
          have hc1 := keep_below HB.out _ _ hc
          have b2 := encode_size_le zs[r]
          clear hc
          by_cases hne : zs[r] = 10
          · have HE := Lib.hid (show lend zs q = r by rw [← HEN.out, lend_hit hrr hne])
            go_wp2
            go_ret
            exact ⟨ret_s (by simp [showL, HE.out, wordB, ByteArray.data_append]), HB.out⟩
          · have HE := Lib.hid (show lend zs (r + 1) = lend zs q by rw [← HEN.out, lend_miss hrr hne])
            have HS2 := Lib.hid (seg_snoc (show lst zs q ≤ r by omega) hrr)
            go_wp2
            go_round
            case rel =>
              refine ⟨r + 1, by omega, by omega, by go_num, ?_, HE.out⟩
              rw [HS2.out, encL_snoc]
              exact congrArg Value.string (bs_eq (by simp [ByteArray.data_append]))
            case measure => simp [intOf]; omega
        · have HE := Lib.hid (show lend zs q = r by rw [← HEN.out, lend_end zs r (by omega)])
          go_wp2
          go_ret
          exact ⟨ret_s (by simp [showL, HE.out, wordB, ByteArray.data_append]), HB.out⟩
end Go.Proofs.YtnionifbhmfkoaaDoor
