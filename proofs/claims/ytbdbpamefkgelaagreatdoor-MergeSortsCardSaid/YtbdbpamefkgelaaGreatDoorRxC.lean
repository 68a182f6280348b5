/- Layer 17, walked: Pass. -/
import Derived.Test.YtbdbpamefkgelaaGreatDoorRxA
import Derived.Test.YtbdbpamefkgelaaGreatDoorOrR
namespace Go.Proofs.YtbdbpamefkgelaaGreatDoor
set_option maxRecDepth 100000
open Go.RowKit Fl
set_option linter.unusedVariables false

theorem zL_get {l : List Nat} {k : Nat} {x : Int} (h : (zL l)[k]? = some x) : ∃ p, l[k]? = some p ∧ x = (p : Int) := by
  unfold zL at h
  rw [List.getElem?_map] at h
  cases hp : l[k]? with
  | none => rw [hp] at h; cases h
  | some p => rw [hp] at h; exact ⟨p, rfl, (Option.some.inj h).symm⟩
theorem ints_rowF {f : Nat → Int} {d : Nat} (h : d < 2048) (h2 : d < (ints (rowF f)).length) : (ints (rowF f))[d] = .int .i64 (f d) := by
  apply Option.some.inj
  rw [← List.getElem?_eq_getElem]
  unfold ints
  rw [List.getElem?_map, rowF_at h]; rfl
theorem ints_zT {l : List Nat} {p : Nat} (h : p < (ints (zL l)).length) : ∃ y, (ints (zL l))[p] = .int .i64 y := by
  unfold ints; exact ⟨_, List.getElem_map _⟩
set_option maxHeartbeats 8000000 in
theorem rxpass_calls {ok okA : Nat → Prop} (v va : Value) (keys l : List Nat) (s : Nat) (down : Bool) (w : World) (hv : Slc w ok v keys.length (u64s keys)) (hva : Slc w okA va l.length (ints (zL l))) (hs : s < 64) (hm : keys.length ≤ 1048576) (hml : l.length ≤ 1048576) (hk : ∀ x ∈ keys, x < 18446744073709551616) (hl : ∀ x ∈ l, x < keys.length) :
    Calls Tryz.prog 74 #[v, va, .int .u64 (s : Int), .bool down] w fun e w' => ∃ u, e = .returned u ∧ Slc w' (fun b => w.heap.size ≤ b) u l.length (ints (zL (passL (dgK down (fun i => keys.getD i 0) s) l))) ∧ Below w.heap.size w w' := by
  obtain ⟨n, hn⟩ : ∃ n, l.length = n := ⟨_, rfl⟩
  obtain ⟨dg, hdg⟩ : ∃ dg, dgK down (fun i => keys.getD i 0) s = dg := ⟨_, rfl⟩
  have HDL := Lib.hid (show ∀ i, dg i < 2048 from fun i => by rw [← hdg]; exact dgK_lt _ _ _ _)
  have HDA := Lib.hid (show ∀ x ∈ l, dg x < 2048 from fun i _ => HDL.out i)
  have HDC := Lib.hid (show ∀ (wx : World) (i : Nat), Slc wx ok v keys.length (u64s keys) → i ∈ l → Calls Tryz.prog 102 #[v, .int .i64 (i : Int), .int .u64 (s : Int), .bool down] wx fun e w' => e = .returned (.int .i64 ((dg i : Nat) : Int)) ∧ wx = w' from fun wx i h1 h2 => by rw [← hdg]; exact rxdigit_calls v keys i s down wx h1 (hl i h2) hs hm hk)
  have HV := Lib.hid hv
  have HA := Lib.hid hva
  have HN := Lib.hid hn
  rw [hdg]
  obtain ⟨ao, cap, rfl, _⟩ := hva.opened
  have hsv : ∃ ao cap, v = .slice ao keys.length cap := by obtain ⟨a1, c1, h1, _⟩ := hv.opened; exact ⟨a1, c1, h1⟩
  obtain ⟨av, capv, rfl⟩ := hsv
  obtain ⟨nk, hnk⟩ : ∃ nk, keys.length = nk := ⟨_, rfl⟩
  rw [hnk] at HV HDC ⊢
  rw [hn] at HA hml ⊢
  clear hv hva hm hk hl hn hdg hnk
  obtain ⟨W0, hW0⟩ : ∃ W0, W0 = w.alloc (.cells Tryz.zeroCells146 146) := ⟨_, rfl⟩
  have HO0 : Hid (W0.ownsRow w.heap.size 146 1 (.slice (some ⟨w.heap.size, 0, none⟩) 2048 2048) 2048 (ints (rowF fun d => ((cntL dg l 0 d : Nat) : Int)))) := Lib.hid (by
    rw [hW0, show (rowF fun d => ((cntL dg l 0 d : Nat) : Int)) = rowF fun _ => 0 from rowF_congr fun d _ => by rw [cntL_zero]; rfl, rowF_zero, ints_rep]; exact own_arrD w _ (Nat.le_refl _))
  have HW := Lib.hid (show Below w.heap.size w W0 by rw [hW0]; exact below_new _ _)
  obtain ⟨g, hg⟩ : ∃ g, w.heap.size = g := ⟨_, rfl⟩
  rw [hg] at HO0 HW ⊢
  have HG := Lib.hid hg
  go_enter Tryz.func74, Tryz.ntmps74
  go_wp2
  rw [← hW0]
  clear hW0 hg
  go_loopw [20] (fun iv wr => ∃ k : Nat, k ≤ n ∧ iv = .int .i64 k ∧ wr.ownsRow g 146 1 (.slice (some ⟨g, 0, none⟩) 2048 2048) 2048 (ints (rowF fun d => ((cntL dg l k d : Nat) : Int))) ∧ Below g w wr) (fun iv _ => n - (intOf iv).toNat)
  case atStart => exact ⟨0, by omega, rfl, HO0.out, HW.out⟩
  case round =>
    obtain ⟨k, hk, rfl, hown, hB⟩ := hrel
    have HO := Lib.hid hown
    have HB := Lib.hid hB
    clear hown hB HO0 HW
    by_cases hlt : k < n
    · have hBw : Below w.heap.size w wr := by rw [HG.out]; exact HB.out
      have HV2 := Lib.hid (HV.out.below hBw)
      have HA2 := Lib.hid (HA.out.below hBw)
      clear hBw
      obtain ⟨b, off, cap2, x, e9, hx, hcx⟩ := Slc.at_map (Value.int .i64) (l := zL l) (by rw [zL_len, HN.out]; exact HA2.out) k (by rw [zL_len, HN.out]; exact hlt)
      rw [zL_len, HN.out] at e9
      cases e9
      obtain ⟨p, hp, rfl⟩ := zL_get hx
      have HP := Lib.hid hp
      have HPM := Lib.hid (List.mem_of_getElem? hp)
      clear hx hp
      obtain ⟨D, hD⟩ : ∃ D, dg p = D := ⟨_, rfl⟩
      have hDl : D < 2048 := by rw [← hD]; exact HDL.out p
      have HD := Lib.hid hD
      obtain ⟨c, hc⟩ : ∃ c, cntL dg l k D = c := ⟨_, rfl⟩
      have hck : c ≤ k := by rw [← hc]; exact cntL_le _ _ _ _
      have hcw := owns_cell HO.out D (by rw [ints_len, rowF_len]; exact hDl)
      rw [ints_rowF hDl] at hcw
      simp only [hc] at hcw
      have hfr := World.ownsRow.frozenAt HO.out D
      have HC := Lib.hid hc
      clear hc hD
      go_wp2_with fail
      refine (HDC.out _ p HV2.out HPM.out).mono ?_
      rintro e w9 ⟨rfl, rfl⟩
      rw [HD.out]
      go_wp2
      go_roundw
      case rel =>
        refine ⟨k + 1, by omega, by go_num, ?_, HB.out.setCell (Nat.le_refl _) _⟩
        have := (World.ownsRow.stored HO.out D (.int .i64 ((c : Int) + 1))).1
        rw [ints_set, rowF_set] at this
        rw [show (rowF fun d => ((cntL dg l (k + 1) d : Nat) : Int)) = rowF (fun e => if e = D then (c : Int) + 1 else ((cntL dg l k e : Nat) : Int)) from rowF_congr fun d _ => by
          rw [cntL_succ HP.out d, HD.out]
          by_cases h : d = D
          · rw [if_pos h, if_pos h, h, HC.out]; rfl
          · rw [if_neg h, if_neg h]]
        exact this
      case measure => simp [intOf]; omega
    · have hkn : k = n := by omega
      have HO2 := Lib.hid (show wr.ownsRow g 146 1 (.slice (some ⟨g, 0, none⟩) 2048 2048) 2048 (ints (rowF fun e => if e < 0 then ((stL dg l e : Nat) : Int) else ((cntL dg l n e : Nat) : Int))) by
        rw [← hkn]; exact HO.out)
      clear HO hkn
      go_wp2
      go_loopw [12, 34] (fun av iv wq => ∃ d : Nat, d ≤ 2048 ∧ iv = .int .i64 d ∧ av = .int .i64 ((stL dg l d : Nat) : Int) ∧ wq.ownsRow g 146 1 (.slice (some ⟨g, 0, none⟩) 2048 2048) 2048 (ints (rowF fun e => if e < d then ((stL dg l e : Nat) : Int) else ((cntL dg l n e : Nat) : Int))) ∧ Below g w wq) (fun _ iv _ => 2048 - (intOf iv).toNat)
      case atStart => exact ⟨0, by omega, rfl, rfl, HO2.out, HB.out⟩
      case round =>
        obtain ⟨d, hd, rfl, rfl, hown, hB⟩ := hrel
        clear HO2 HB
        have HO := Lib.hid hown
        have HB := Lib.hid hB
        clear hown hB
        have hstl := stL_le (dg := dg) (l := l) d hd HDA.out
        rw [HN.out] at hstl
        by_cases hlt2 : d < 2048
        · obtain ⟨c, hc⟩ : ∃ c, cntL dg l n d = c := ⟨_, rfl⟩
          have hck : c ≤ n := by rw [← hc]; exact cntL_le _ _ _ _
          obtain ⟨A, hA⟩ : ∃ A, stL dg l d = A := ⟨_, rfl⟩
          rw [hA] at hstl ⊢
          have hcw := owns_cell HO.out d (by rw [ints_len, rowF_len]; exact hlt2)
          rw [ints_rowF hlt2] at hcw
          simp only [Nat.lt_irrefl, if_false, hc] at hcw
          have hfr := World.ownsRow.frozenAt HO.out d
          have HC := Lib.hid hc
          have HST := Lib.hid hA
          clear hc hA
          go_wp2
          go_roundw
          case rel =>
            refine ⟨d + 1, by omega, by go_num, ?_, ?_, HB.out.setCell (Nat.le_refl _) _⟩
            · rw [stL_succ, HST.out, HN.out, HC.out]; go_num
            · have := (World.ownsRow.stored HO.out d (.int .i64 (A : Int))).1
              rw [ints_set, rowF_set] at this
              rw [show (rowF fun e => if e < d + 1 then ((stL dg l e : Nat) : Int) else ((cntL dg l n e : Nat) : Int)) = rowF (fun e => if e = d then (A : Int) else (if e < d then ((stL dg l e : Nat) : Int) else ((cntL dg l n e : Nat) : Int))) from rowF_congr fun e _ => by
                by_cases h : e = d
                · rw [if_pos h, if_pos (by omega), h, HST.out]
                · rw [if_neg h]
                  by_cases h2 : e < d
                  · rw [if_pos h2, if_pos (by omega)]
                  · rw [if_neg h2, if_neg (by omega)]]
              exact this
          case measure => simp [intOf]; omega
        · have hd2 : d = 2048 := by omega
          have HO3 := Lib.hid (show wr.ownsRow g 146 1 (.slice (some ⟨g, 0, none⟩) 2048 2048) 2048 (ints (rowF fun e => ((stL dg l e + cntL dg l 0 e : Nat) : Int))) by
            rw [show (rowF fun e => ((stL dg l e + cntL dg l 0 e : Nat) : Int)) = rowF (fun e => if e < d then ((stL dg l e : Nat) : Int) else ((cntL dg l n e : Nat) : Int)) from rowF_congr fun e he => by
              rw [if_pos (by omega), cntL_zero, Nat.add_zero]]
            exact HO.out)
          clear HO hd2 hstl
          have hmk := run_mkI3 n (by omega) wr
          obtain ⟨W1, hW1⟩ : ∃ W1, W1 = wr.alloc (.cells (zerosV (.int .i64 0) n) 3) := ⟨_, rfl⟩
          obtain ⟨g1, hg1⟩ : ∃ g1, wr.heap.size = g1 := ⟨_, rfl⟩
          have HZ0 : Hid (W1.ownsRow g 3 1 (.slice (some ⟨g1, 0, none⟩) n n) n (ints (zL (plcT dg l 0)))) := Lib.hid (by
            have := own_make1 (.int .i64 0) 3 n (by omega) wr g (by have := HB.out.size; rw [HG.out] at this; exact this)
            rw [hW1]; unfold plcT; rw [HN.out, zL_rep, ints_rep, ← hg1]; exact this)
          have HOA := Lib.hid (show W1.ownsRow g 146 1 (.slice (some ⟨g, 0, none⟩) 2048 2048) 2048 (ints (rowF fun e => ((stL dg l e + cntL dg l 0 e : Nat) : Int))) by rw [hW1]; exact HO3.out.alloc _)
          have HBA := Lib.hid (show Below g w W1 by rw [hW1]; exact HB.out.alloc (by have := HB.out.size; rw [HG.out] at this; exact this) _)
          have HG1 := Lib.hid (show g < g1 by have := (HO3.out.lt g rfl).2; omega)
          rw [hg1] at hmk
          rw [← hW1] at hmk
          clear hW1 HO3 HB hg1
          go_wp2
          clear hmk
          go_loopw [51] (fun iv wz => ∃ k : Nat, k ≤ n ∧ iv = .int .i64 k ∧ wz.ownsRow g 146 1 (.slice (some ⟨g, 0, none⟩) 2048 2048) 2048 (ints (rowF fun e => ((stL dg l e + cntL dg l k e : Nat) : Int))) ∧ wz.ownsRow g 3 1 (.slice (some ⟨g1, 0, none⟩) n n) n (ints (zL (plcT dg l k))) ∧ Below g w wz) (fun iv _ => n - (intOf iv).toNat)
          case atStart => exact ⟨0, by omega, rfl, HOA.out, HZ0.out, HBA.out⟩
          case round =>
            obtain ⟨j, hj, rfl, hown, hownz, hB⟩ := hrel
            clear HOA HZ0 HBA
            have HO := Lib.hid hown
            have HZ := Lib.hid hownz
            have HB := Lib.hid hB
            clear hown hownz hB
            by_cases hlt3 : j < n
            · have hBw : Below w.heap.size w wr := by rw [HG.out]; exact HB.out
              have HV2 := Lib.hid (HV.out.below hBw)
              have HA2 := Lib.hid (HA.out.below hBw)
              clear hBw
              obtain ⟨b, off, cap2, x, e9, hx, hcx⟩ := Slc.at_map (Value.int .i64) (l := zL l) (by rw [zL_len, HN.out]; exact HA2.out) j (by rw [zL_len, HN.out]; exact hlt3)
              rw [zL_len, HN.out] at e9
              cases e9
              obtain ⟨p, hp, rfl⟩ := zL_get hx
              have HP := Lib.hid hp
              have HPM := Lib.hid (List.mem_of_getElem? hp)
              have hpd : l.getD j 0 = p := by rw [List.getD_eq_getElem?_getD, hp]; rfl
              clear hx hp
              obtain ⟨D, hD⟩ : ∃ D, dg p = D := ⟨_, rfl⟩
              have hDl : D < 2048 := by rw [← hD]; exact HDL.out p
              have HD := Lib.hid hD
              obtain ⟨q, hq⟩ : ∃ q, stL dg l D + cntL dg l j D = q := ⟨_, rfl⟩
              have hqn : q < n := by
                have := posL_lt HDA.out (k := j) (by rw [HN.out]; exact hlt3)
                unfold posL at this
                rw [hpd, hD, hq, HN.out] at this
                exact this
              have HPO := Lib.hid (show posL dg l j = q by unfold posL; rw [hpd, hD, hq])
              have HPD := Lib.hid hpd
              have hcw := owns_cell HO.out D (by rw [ints_len, rowF_len]; exact hDl)
              rw [ints_rowF hDl] at hcw
              simp only [hq] at hcw
              have hfr := World.ownsRow.frozenAt HO.out D
              have hcz := owns_cell HZ.out q (by rw [ints_len, zL_len, plcT_len, HN.out]; exact hqn)
              obtain ⟨y, hy⟩ := ints_zT (l := plcT dg l j) (p := q) (by rw [ints_len, zL_len, plcT_len, HN.out]; exact hqn)
              rw [hy] at hcz
              have hfz := World.ownsRow.frozenAt HZ.out q
              have HQ := Lib.hid hq
              have hgn : (g = g1) = False := by have := HG1.out; simp; omega
              have hgn2 : (g1 = g) = False := by have := HG1.out; simp; omega
              clear hq hD hy hpd
              go_wp2_with fail
              refine (HDC.out _ p HV2.out HPM.out).mono ?_
              rintro e w9 ⟨rfl, rfl⟩
              rw [HD.out]
              go_wp2
              go_roundw
              case rel =>
                refine ⟨j + 1, by omega, by go_num, ?_, ?_, (HB.out.setCell (show g ≤ g1 by have := HG1.out; omega) _).setCell (Nat.le_refl _) _⟩
                · have h1 := ownsRow_setCell_other HO.out (a := ⟨g1, q, none⟩) (by have := HG1.out; intro h; simp [Value.ownBlock] at h; omega) (.int .i64 (p : Int))
                  have := (World.ownsRow.stored h1 D (.int .i64 ((q : Int) + 1))).1
                  rw [ints_set, rowF_set] at this
                  rw [show (rowF fun d => ((stL dg l d + cntL dg l (j + 1) d : Nat) : Int)) = rowF (fun e => if e = D then (q : Int) + 1 else ((stL dg l e + cntL dg l j e : Nat) : Int)) from rowF_congr fun d _ => by
                    rw [cntL_succ HP.out d, HD.out]
                    by_cases h : d = D
                    · rw [if_pos h, if_pos h, h, ← HQ.out]; omega
                    · rw [if_neg h, if_neg h]]
                  exact this
                · have h1 := (World.ownsRow.stored HZ.out q (.int .i64 (p : Int))).1
                  have := ownsRow_setCell_other h1 (a := ⟨g, D, none⟩) (by have := HG1.out; intro h; simp [Value.ownBlock] at h; omega) (.int .i64 ((q : Int) + 1))
                  rw [ints_set, zL_set] at this
                  unfold plcT
                  rw [HPO.out, HPD.out]
                  exact this
              case measure => simp [intOf]; omega
            · have hjn : j = n := by omega
              have HE := Lib.hid (show Slc wr (fun b => g ≤ b) (.slice (some ⟨g1, 0, none⟩) n n) n (ints (zL (passL dg l))) by
                have := Slc.owned HZ.out
                rw [hjn, ← HN.out, plcT_all HDA.out, HN.out] at this
                exact this)
              clear hjn
              go_wp2
              go_ret
              exact ⟨_, rfl, HE.out, HB.out⟩
end Go.Proofs.YtbdbpamefkgelaaGreatDoor
