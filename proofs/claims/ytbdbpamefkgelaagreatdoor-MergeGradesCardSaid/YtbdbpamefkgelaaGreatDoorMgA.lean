/- Layer 18, walked: the reference's Grade. -/
import Derived.Test.YtbdbpamefkgelaaGreatDoorRxG
import Derived.Test.YtbdbpamefkgelaaGreatDoorOrR
namespace Go.Proofs.YtbdbpamefkgelaaGreatDoor
set_option maxRecDepth 100000
open Go.RowKit Fl
set_option linter.unusedVariables false

/-- A row of bytes. -/
def u8m (l : List Nat) : List Value := l.map fun z : Nat => Value.int .u8 (z : Int)
/-- Keys as they are held against each other. -/
def keyE (keys : List Nat) (i : Nat) : Int := ((keys.getD i 0 : Nat) : Int)
theorem keyE_some {keys : List Nat} {i x : Nat} (h : keys[i]? = some x) : keyE keys i = (x : Int) := by unfold keyE; rw [List.getD_eq_getElem?_getD, h]; rfl
theorem les_yes1 {keys : List Nat} {i k x y : Nat} (hx : keys[k]? = some x) (hy : keys[i]? = some y) (h : x < y) : lesK (keyE keys) 1 false k i = true := by
  rw [lesK_one, keyE_some hx, keyE_some hy]; simp only [Bool.false_eq_true, if_false]; omega
theorem les_yes2 {keys : List Nat} {i k x y : Nat} (hx : keys[k]? = some x) (hy : keys[i]? = some y) (h : x = y) (h2 : k < i) : lesK (keyE keys) 1 false k i = true := by
  rw [lesK_one, keyE_some hx, keyE_some hy]; simp only [Bool.false_eq_true, if_false]; omega
theorem les_no {keys : List Nat} {i k x y : Nat} (hx : keys[k]? = some x) (hy : keys[i]? = some y) (h : ¬ x < y) (h2 : ¬ (x = y ∧ k < i)) : lesK (keyE keys) 1 false k i ≠ true := by
  rw [Ne, lesK_one, keyE_some hx, keyE_some hy]; simp only [Bool.false_eq_true, if_false]; omega
set_option maxHeartbeats 8000000 in
theorem r18grade_calls {ok : Nat → Prop} (v : Value) (keys : List Nat) (w : World) (hv : Slc w ok v keys.length (u8m keys)) (hm : keys.length ≤ 1048576) :
    Calls Tryz.prog 11 #[v] w fun e w' => ∃ v, e = .returned v ∧ Slc w' (fun b => w.heap.size ≤ b) v keys.length (ints (zL (grN keys.length (lesK (keyE keys) 1 false) keys.length))) ∧ Below w.heap.size w w' := by
  have HV := Lib.hid hv
  obtain ⟨ao, cap, rfl, _⟩ := hv.opened
  obtain ⟨n, hn⟩ : ∃ n, keys.length = n := ⟨_, rfl⟩
  have HTO := Lib.hid (lesK_tot (keyE keys) 1 false n)
  have HL1 := Lib.hid (show ∀ (i k x y : Nat), keys[k]? = some x → keys[i]? = some y → x < y → lesK (keyE keys) 1 false k i = true from fun i k x y => les_yes1)
  have HL2 := Lib.hid (show ∀ (i k x y : Nat), keys[k]? = some x → keys[i]? = some y → x = y → k < i → lesK (keyE keys) 1 false k i = true from fun i k x y => les_yes2)
  have HL3 := Lib.hid (show ∀ (i k x y : Nat), keys[k]? = some x → keys[i]? = some y → ¬ x < y → ¬ (x = y ∧ k < i) → lesK (keyE keys) 1 false k i ≠ true from fun i k x y => les_no)
  obtain ⟨lt, hlt⟩ : ∃ lt, lesK (keyE keys) 1 false = lt := ⟨_, rfl⟩
  rw [hlt] at HTO HL1 HL2 HL3 ⊢
  have HN := Lib.hid hn
  rw [hn] at hm HV ⊢
  clear hv hn hlt
  have hmk := run_mkI3 n (by omega) w
  obtain ⟨W0, hW0⟩ : ∃ W0, W0 = w.alloc (.cells (zerosV (.int .i64 0) n) 3) := ⟨_, rfl⟩
  have HO0 : Hid (W0.ownsRow w.heap.size 3 1 (.slice (some ⟨w.heap.size, 0, none⟩) n n) n (ints (zL (grN n lt 0)))) := Lib.hid (by rw [hW0]; unfold grN; rw [zL_rep, ints_rep]; exact own_make1 _ _ _ (by omega) _ _ (Nat.le_refl _))
  have HW := Lib.hid (show Below w.heap.size w W0 by rw [hW0]; exact below_new _ _)
  go_enter Tryz.func11, Tryz.ntmps11
  go_wp2
  rw [← hW0]
  clear hW0 hmk
  go_loopw [4] (fun i wr => ∃ k : Nat, k ≤ n ∧ i = .int .i64 k ∧ wr.ownsRow w.heap.size 3 1 (.slice (some ⟨w.heap.size, 0, none⟩) n n) n (ints (zL (grN n lt k))) ∧ Below w.heap.size w wr) (fun i _ => n - (intOf i).toNat)
  case atStart => exact ⟨0, by omega, rfl, HO0.out, HW.out⟩
  case round =>
    obtain ⟨i, hi, rfl, hown, hB⟩ := hrel
    have HO := Lib.hid hown
    have HB := Lib.hid hB
    clear hown hB HO0 HW
    by_cases hlt : i < n
    · have HIN := Lib.hid hlt
      obtain ⟨X, hX⟩ : ∃ X, wr = X := ⟨_, rfl⟩
      rw [hX] at HO HB ⊢
      clear hX
      go_wp2
      go_loopw [5, 6] (fun av kv wq => ∃ k : Nat, k ≤ n ∧ kv = .int .i64 k ∧ av = .int .i64 (rkU lt i k : Nat) ∧ Below X.heap.size X wq) (fun _ kv _ => n - (intOf kv).toNat)
      case atStart => exact ⟨0, by omega, rfl, rfl, Below.refl _ _⟩
      case round =>
        obtain ⟨k, hk, rfl, rfl, hBq⟩ := hrel
        have HQ := Lib.hid hBq
        clear hBq
        obtain ⟨c, hc⟩ : ∃ c, rkU lt i k = c := ⟨_, rfl⟩
        have hck : c ≤ k := by rw [← hc]; exact rkU_le _ _ _
        rw [hc]
        have HC := Lib.hid hc
        clear hc
        by_cases hkn : k < n
        · have HV2 := Lib.hid (HV.out.below (HB.out.trans (HQ.out.mono HB.out.size)))
          obtain ⟨b1, o1, c1, x, e9, hx, hcx⟩ := Slc.at_map (fun z : Nat => Value.int .u8 (z : Int)) (by rw [HN.out]; exact HV2.out) k (by rw [HN.out]; exact hkn)
          rw [HN.out] at e9
          cases e9
          obtain ⟨b2, o2, c2, y, e9, hy, hcy⟩ := Slc.at_map (fun z : Nat => Value.int .u8 (z : Int)) (by rw [HN.out]; exact HV2.out) i (by rw [HN.out]; exact HIN.out)
          rw [HN.out] at e9
          cases e9
          have HST := Lib.hid (rkU_succ lt i k)
          have HL := Lib.hid (And.intro (HL1.out i k x y hx hy) (And.intro (HL2.out i k x y hx hy) (HL3.out i k x y hx hy)))
          clear hx hy
          by_cases hxy : x < y
          · have HSV := Lib.hid (show rkU lt i (k + 1) = c + 1 by rw [HST.out, if_pos (HL.out.1 hxy), HC.out])
            clear HL HST
            go_wp2
            go_region
            go_wp2
            go_roundw
            case rel => exact ⟨k + 1, by omega, by go_num, by rw [HSV.out]; try go_num, HQ.out.trans ((Below.drewN' (Below.refl _ _) 1).mono HQ.out.size)⟩
            case measure => simp [intOf]; omega
          · by_cases hxe : x = y
            · subst hxe
              by_cases hki : k < i
              · have HSV := Lib.hid (show rkU lt i (k + 1) = c + 1 by rw [HST.out, if_pos (HL.out.2.1 rfl hki), HC.out])
                clear HL HST
                go_wp2
                go_region
                go_wp2
                go_roundw
                case rel => exact ⟨k + 1, by omega, by go_num, by rw [HSV.out]; try go_num, HQ.out.trans ((Below.drewN' (Below.refl _ _) 1).mono HQ.out.size)⟩
                case measure => simp [intOf]; omega
              · have HSV := Lib.hid (show rkU lt i (k + 1) = c by rw [HST.out, if_neg (HL.out.2.2 hxy (fun h => hki h.2)), HC.out])
                clear HL HST
                go_wp2
                go_region
                go_wp2
                go_roundw
                case rel => exact ⟨k + 1, by omega, by go_num, by rw [HSV.out]; try go_num, HQ.out.trans ((Below.drewN' (Below.refl _ _) 1).mono HQ.out.size)⟩
                case measure => simp [intOf]; omega
            · have HSV := Lib.hid (show rkU lt i (k + 1) = c by rw [HST.out, if_neg (HL.out.2.2 hxy (fun h => hxe h.1)), HC.out])
              have hne : ((x : Int) == (y : Int)) = false := by simp; omega
              have hne2 : (x == y) = false := by simpa using hxe
              clear HL HST hxe
              go_wp2
              go_region
              go_wp2
              go_roundw
              case rel => exact ⟨k + 1, by omega, by go_num, by rw [HSV.out]; try go_num, HQ.out.trans ((Below.drewN' (Below.refl _ _) 1).mono HQ.out.size)⟩
              case measure => simp [intOf]; omega
        · have hcn : c < n := by rw [← HC.out, show k = n by omega, rkU_all]; exact rkO_bd HTO.out HIN.out
          have HCR := Lib.hid (show c = rkO n lt i by rw [← HC.out, show k = n by omega, rkU_all])
          have HO1 := Lib.hid (owns_below HO.out HQ.out)
          have hcw := owns_cell HO1.out c (by rw [ints_len, zL_len, grN_len]; exact hcn)
          have hfr := World.ownsRow.frozenAt HO1.out c
          have HB2 := Lib.hid (HB.out.trans (HQ.out.mono HB.out.size))
          go_wp2
          go_roundw
          case rel =>
            refine ⟨i + 1, by omega, by go_num, ?_, HB2.out.setCell (Nat.le_refl _) _⟩
            have := (World.ownsRow.stored HO1.out c (.int .i64 i)).1
            rw [ints_set, zL_set] at this
            simp only [grN, ← HCR.out]
            exact this
          case measure => simp [intOf]; omega
    · have hin : i = n := by omega
      have HE := Lib.hid (Slc.owned HO.out)
      rw [hin] at HE
      clear hin
      go_wp2
      go_ret
      exact ⟨_, rfl, HE.out, HB.out⟩
end Go.Proofs.YtbdbpamefkgelaaGreatDoor
