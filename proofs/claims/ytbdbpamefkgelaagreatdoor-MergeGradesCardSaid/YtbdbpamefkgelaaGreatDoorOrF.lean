/- Layer 16, walked: the reference's Grade, Once. -/
import Derived.Test.YtbdbpamefkgelaaGreatDoorOrR
import Derived.Test.YtbdbpamefkgelaaGreatDoorOrE
import Derived.Test.YtbdbpamefkgelaaGreatDoorPiA
namespace Go.Proofs.YtbdbpamefkgelaaGreatDoor
set_option maxRecDepth 100000
open Go.RowKit Fl
set_option linter.unusedVariables false

set_option maxHeartbeats 8000000 in
theorem rgrade_calls {ok : Nat → Prop} (v : Value) (l : List PI) (K : Nat → Int) (size : Nat) (down : Bool) (w : World) (hv : Its w ok v l) (hK : Keyed l K) (hs : 0 < size) (hsm : size ≤ 1048576) (hm : l.length ≤ 1048576) :
    Calls Tryz.prog 17 #[v, .int .i64 (size : Int), .bool down] w fun e w' => ∃ v, e = .returned v ∧ Slc w' (fun b => w.heap.size ≤ b) v (l.length / size) (ints (zL (grN (l.length / size) (lesK K size down) (l.length / size)))) ∧ Below w.heap.size w w' := by
  have HV := Lib.hid hv
  have HKY := Lib.hid hK
  have HPOS := Lib.hid hs
  have HM := Lib.hid hm
  obtain ⟨ao, cap, rfl, _, _⟩ := hv.len
  have hQm : l.length / size ≤ l.length := Nat.div_le_self _ _
  obtain ⟨m, hml⟩ : ∃ m, l.length = m := ⟨_, rfl⟩
  obtain ⟨n, hn⟩ : ∃ n, m / size = n := ⟨_, rfl⟩
  have HTO := Lib.hid (lesK_tot K size down n)
  obtain ⟨lt, hlt⟩ : ∃ lt, lesK K size down = lt := ⟨_, rfl⟩
  rw [hlt] at HTO
  rw [hml] at hm hQm HV ⊢
  rw [hn] at hQm ⊢
  rw [hlt]
  have HN := Lib.hid (show l.length / size = n by rw [hml]; exact hn)
  have HLT := Lib.hid hlt
  have hnm : n ≤ 1048576 := by omega
  have d1 : (m : Int) / (size : Int) = (n : Int) := by rw [← hn]; rfl
  have d2 : (m : Int).tdiv (size : Int) = (n : Int) := by rw [← hn]; rfl
  have w1 : IntKind.i64.wrap (n : Int) = (n : Int) := IntWalk.i64_in _ (by omega)
  have hz1 : ¬ (size : Int) = 0 := by omega
  have hz2 : ¬ size = 0 := by omega
  clear hv hK hml hn hlt hm hQm hs
  have hmk := run_mkI3 n (by omega) w
  obtain ⟨W0, hW0⟩ : ∃ W0, W0 = w.alloc (.cells (zerosV (.int .i64 0) n) 3) := ⟨_, rfl⟩
  have HO0 : Hid (W0.ownsRow w.heap.size 3 1 (.slice (some ⟨w.heap.size, 0, none⟩) n n) n (ints (zL (grN n lt 0)))) := Lib.hid (by rw [hW0]; unfold grN; rw [zL_rep, ints_rep]; exact own_make1 _ _ _ (by omega) _ _ (Nat.le_refl _))
  have HW := Lib.hid (show Below w.heap.size w W0 by rw [hW0]; exact below_new _ _)
  go_enter Tryz.func17, Tryz.ntmps17
  go_wp2
  rw [← hW0]
  clear hW0 hmk
  go_loopw [9] (fun i wr => ∃ k : Nat, k ≤ n ∧ i = .int .i64 k ∧ wr.ownsRow w.heap.size 3 1 (.slice (some ⟨w.heap.size, 0, none⟩) n n) n (ints (zL (grN n lt k))) ∧ Below w.heap.size w wr) (fun i _ => n - (intOf i).toNat)
  case atStart => exact ⟨0, by omega, rfl, HO0.out, HW.out⟩
  case round =>
    obtain ⟨i, hi, rfl, hown, hB⟩ := hrel
    have HO := Lib.hid hown
    have HB := Lib.hid hB
    clear hown hB HO0 HW
    by_cases hlt : i < n
    · have HIN := Lib.hid hlt
      go_wp2
      go_loopw [10, 11] (fun av kv wq => ∃ k : Nat, k ≤ n ∧ kv = .int .i64 k ∧ av = .int .i64 (rkU lt i k : Nat) ∧ Below wr.heap.size wr wq) (fun _ kv _ => n - (intOf kv).toNat)
      case atStart => exact ⟨0, by omega, rfl, rfl, Below.refl _ _⟩
      case round =>
        obtain ⟨k, hk, rfl, rfl, hBq⟩ := hrel
        have HQ := Lib.hid hBq
        clear hBq
        obtain ⟨c, hc⟩ : ∃ c, rkU lt i k = c := ⟨_, rfl⟩
        have hck : c ≤ k := by rw [← hc]; exact rkU_le _ _ _
        rw [hc]
        have HC := Lib.hid hc
        clear hc
        have HV2 := Lib.hid (HV.out.grow (HB.out.trans (HQ.out.mono HB.out.size)))
        by_cases hkn : k < n
        · have HST := Lib.hid (rkU_succ lt i k)
          by_cases hki : k = i
          · have HKI := Lib.hid hki
            have hne : ((k : Int) != (i : Int)) = false := by simp; omega
            clear hki
            have HSV := Lib.hid (show rkU lt i (k + 1) = c by rw [HST.out, if_neg (by rw [HKI.out, HTO.out.irr i HIN.out]; simp), HC.out])
            go_wp2
            go_roundw
            case rel => exact ⟨k + 1, by omega, by go_num, by rw [HSV.out], HQ.out⟩
            case measure => simp [intOf]; omega
          · have hne : ((k : Int) != (i : Int)) = true := by simp; omega
            have HKN := Lib.hid hkn
            clear hki
            go_wp2_with fail
            refine (rless_calls _ l K size k i down _ HV2.out HKY.out HPOS.out HM.out (by rw [HN.out]; exact HKN.out) (by rw [HN.out]; exact HIN.out)).mono ?_
            rintro e W1 ⟨rfl, hB⟩
            rw [HLT.out]
            replace HQ := Lib.hid (HQ.out.trans (hB.mono HQ.out.size))
            clear hB
            obtain ⟨z, hz⟩ : ∃ z, lt k i = z := ⟨_, rfl⟩
            rw [hz]
            have HZ := Lib.hid hz
            clear hz
            cases z
            · go_wp2
              go_roundw
              case rel => exact ⟨k + 1, by omega, by go_num, by rw [HST.out, HZ.out, if_neg (by simp), HC.out], HQ.out⟩
              case measure => simp [intOf]; omega
            · go_wp2
              go_roundw
              case rel => exact ⟨k + 1, by omega, by go_num, by rw [HST.out, HZ.out, if_pos rfl, HC.out]; go_num, HQ.out⟩
              case measure => simp [intOf]; omega
        · have hcn : c < n := by rw [← HC.out, show k = n by omega, rkU_all]; exact rkO_bd HTO.out HIN.out
          have HCR := Lib.hid (show c = rkO n lt i by rw [← HC.out, show k = n by omega, rkU_all])
          have HO1 := Lib.hid (owns_below HO.out HQ.out)
          have hcw := owns_cell HO1.out c (by rw [ints_len, zL_len, grN_len]; exact hcn)
          have hfr := World.ownsRow.frozenAt HO1.out c
          have HB2 := Lib.hid (HB.out.trans (HQ.out.mono HB.out.size))
          go_wp2
          go_roundw
          case rel =>
            refine ⟨i + 1, by omega, by go_num, ?_, HB2.out.setCell (Nat.le_refl _) _⟩
            have := (World.ownsRow.stored HO1.out c (.int .i64 i)).1
            rw [ints_set, zL_set] at this
            simp only [grN, ← HCR.out]
            exact this
          case measure => simp [intOf]; omega
    · have hin : i = n := by omega
      have HE := Lib.hid (Slc.owned HO.out)
      rw [hin] at HE
      clear hin
      go_wp2
      go_ret
      exact ⟨_, rfl, HE.out, HB.out⟩
/-- What Once tells. -/
def OnceIs (l : List Int) (w : World) (e : Ending) (w' : World) : Prop := ((okP l.length l ∧ e = .returned (.bool true)) ∨ (¬ okP l.length l ∧ e = .returned (.bool false))) ∧ w = w'
end Go.Proofs.YtbdbpamefkgelaaGreatDoor
