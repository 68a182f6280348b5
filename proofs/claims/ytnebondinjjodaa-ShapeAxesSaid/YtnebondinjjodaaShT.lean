/- Package shape, walked: Strides, At. -/
import Derived.Test.YtnebondinjjodaaShR
namespace Go.Proofs.Ytnebondinjjodaa
open Go.RowKit
set_option linter.unusedVariables false
set_option maxRecDepth 8000

theorem strG_good {s : List Int} (h : goodS s = true) : strG s = strd s := if_pos h
theorem strG_bad {s : List Int} (h : goodS s = false) : strG s = [] := by unfold strG; rw [if_neg (by rw [h]; decide)]
theorem Slc.wideG {w : World} {ok ok' : Nat → Prop} {s : Value} {n : Nat} {xs : List Value} (h : Slc w ok s n xs) (hm : ∀ b, ok b → ok' b) : Slc w ok' s n xs := h.keep (Kept.refl _ _) (fun b _ h => hm b h)
theorem below_newS (w : World) (o : Obj) : Below w.heap.size w (w.alloc o) := (Below.refl _ _).alloc (Nat.le_refl _) _
theorem slc_nilG (w : World) (ok : Nat → Prop) {l : List Int} (h : l = []) : Slc w ok (.slice Option.none 0 0) l.length (ints l) := by subst h; exact Slc.nil w ok
theorem max1 {x : Int} (h : ¬ x < 0) : (if x < 1 then (1 : Int) else x) = if 0 < x then x else 1 := by split <;> split <;> omega

theorem good_anyN {s : List Int} (h : goodS s = true) : anyN s = false := by
  unfold goodS at h
  by_cases h8 : 8 < s.length
  · rw [prodR_long h8] at h; simp at h
  · apply Bool.eq_false_iff.2
    intro hn
    rw [prodR_neg h8 hn] at h; simp at h
set_option maxHeartbeats 4000000 in
theorem sstrides_calls {ok : Nat → Prop} (v : Value) (s : List Int) (w : World) (hv : Slc w ok v s.length (ints s)) (hl : s.length ≤ 1000) :
    Calls Try.prog 13 #[v] w fun e w' => ∃ z, e = .returned z ∧ Slc w' (fun b => w.heap.size ≤ b) z (strG s).length (ints (strG s)) ∧ Below w.heap.size w w' := by
  have HV := Lib.hid hv
  have HL := Lib.hid hl
  obtain ⟨ao, cap, rfl, _⟩ := hv.opened
  clear hv
  cases hg : goodS s
  · have HG := Lib.hid hg
    have HS := Lib.hid (strG_bad hg)
    clear hg
    go_enter Try.func13, Try.ntmps13
    go_wp2_with fail
    refine (sgood_calls _ s _ HV.out HL.out).mono ?_
    rintro e w1 ⟨rfl, hB⟩
    have HB := Lib.hid hB
    clear hB
    rw [HG.out]
    go_wp2
    go_ret
    exact ⟨_, rfl, slc_nilG _ _ HS.out, HB.out⟩
  · have HG := Lib.hid hg
    have HS := Lib.hid (strG_good hg)
    have HNZ := Lib.hid (good_nz hg)
    have HN := Lib.hid (good_anyN hg)
    clear hg
    go_enter Try.func13, Try.ntmps13
    go_wp2_with fail
    refine (sgood_calls _ s _ HV.out HL.out).mono ?_
    rintro e w1 ⟨rfl, hB⟩
    have HV1 := Lib.hid (HV.out.below hB)
    have HB0 := Lib.hid (hB.trans ((below_newS w1 (.cells (zeroI s.length) 3)).mono hB.size))
    have hsz1 := hB.size
    clear hB
    rw [HG.out]
    have hmk := run_mkInt s.length (by omega) w1
    obtain ⟨g, hgd⟩ : ∃ g, w1.heap.size = g := ⟨_, rfl⟩
    have HGE := Lib.hid (show w.heap.size ≤ g by omega)
    obtain ⟨W0, hW0⟩ : ∃ W0, W0 = w1.alloc (.cells (zeroI s.length) 3) := ⟨_, rfl⟩
    have HO0 : Hid (W0.ownsRow w.heap.size 3 1 (.slice (some ⟨g, 0, none⟩) s.length s.length) s.length (ints (List.replicate s.length 0))) := Lib.hid (by rw [hW0, ← hgd]; exact own_makeI _ (by omega) _ _ (by omega))
    have HGD := Lib.hid hgd
    have HW0 := Lib.hid (show Below w1.heap.size w1 W0 by rw [hW0]; exact below_newS _ _)
    rw [← hW0] at HB0
    rw [hgd] at hmk
    clear hgd hsz1
    go_wp2
    rw [← hW0]
    clear hW0 hmk
    go_loopw [4, 5] (fun st i wr => ∃ k : Nat, k ≤ s.length ∧ i = .int .i64 ((k : Int) - 1) ∧ st = .int .i64 (nzp (s.drop k)) ∧ wr.ownsRow w.heap.size 3 1 (.slice (some ⟨g, 0, none⟩) s.length s.length) s.length (ints (downTo (strd s) k)) ∧ W0.grownBy wr (some g)) (fun _ i _ => ((intOf i) + 1).toNat)
    case atStart => exact ⟨s.length, by omega, rfl, by rw [List.drop_of_length_le (by omega)]; rfl, by
      have := downTo_all (strd s); rw [strd_len] at this; rw [this]; exact HO0.out, grown_refl _ _⟩
    case round =>
      obtain ⟨k, hk, rfl, rfl, hown, hgr⟩ := hrel
      have HO := Lib.hid hown
      have HGR := Lib.hid hgr
      have HB := Lib.hid (HB0.out.grown hgr HB0.out.size (fun j hj => by cases hj; exact HGE.out))
      cases k with
      | zero =>
        clear hown hgr
        go_wp2
        go_ret
        refine ⟨_, rfl, ?_, HB.out⟩
        have h := Slc.owned HO.out
        rw [HS.out, strd_len]
        rwa [downTo_zero] at h
      | succ j =>
        have e : (((j + 1 : Nat) : Int) - 1) = (j : Int) := by omega
        rw [e]
        clear e
        have hjn : j < s.length := by omega
        have hown2 := hown
        have hlen2 : (downTo (strd s) (j + 1)).length = s.length := by rw [downTo_len _ _ (by rw [strd_len]; omega), strd_len]
        have hcw := owns_cell hown (j) (by rw [ints_len, hlen2]; exact hjn)
        have hfr := World.ownsRow.frozenAt hown j
        rw [ints_get] at hcw
        obtain ⟨y, hy⟩ : ∃ y, y = (downTo (strd s) (j + 1))[j]'(by rw [hlen2]; exact hjn) := ⟨_, rfl⟩
        rw [← hy] at hcw
        obtain ⟨b, off, cap', x, e1, hx, hcx1⟩ := slc_at (Value.int .i64) (show Slc _ ok (.slice ao s.length cap) s.length (s.map (Value.int .i64)) from HV1.out) j hjn
        obtain ⟨e1a, e1b⟩ : ao = some ⟨b, off, none⟩ ∧ cap = cap' := by cases e1; exact ⟨rfl, rfl⟩
        subst e1a
        have hbg : b < g := by have := World.block_lt_of_cell? _ _ hcx1; rw [HGD.out] at this; exact this
        have hne : b ≠ g := by omega
        have hne2 : g ≠ b := by omega
        have hcx := hgr.cell (keep_below HW0.out _ _ hcx1) (fun e => hne (Option.some.inj e))
        have HX := Lib.hid hx
        have HXN := Lib.hid (max1 (anyN_mem hx HN.out))
        have HPROD := Lib.hid (nzp_drop hx)
        obtain ⟨m, hm⟩ : ∃ m, (if x < 1 then (1 : Int) else x) = m := ⟨_, rfl⟩
        obtain ⟨st, hst⟩ : ∃ st, st = nzp (s.drop (j + 1)) := ⟨_, rfl⟩
        have HMX := Lib.hid hm
        have HST := Lib.hid hst
        have hp1 := nzp_pos (s.drop j)
        have hp2 := Int.le_trans (nzp_drop_le s j) HNZ.out
        have hmul : nzp (s.drop j) = st * m := by rw [HPROD.out, ← HXN.out, HMX.out, ← HST.out, Int.mul_comm]
        have HMUL := Lib.hid hmul
        rw [hmul] at hp1 hp2
        obtain ⟨q, hq⟩ : ∃ q, st * m = q := ⟨_, rfl⟩
        have HQ := Lib.hid hq
        rw [hq] at hp1 hp2
        rw [← hst]
        clear hown hgr hown2 hlen2 hy e1 e1b hcx1 hx hst hmul
        go_wp2
        go_roundw
        case rel =>
          refine ⟨j, by omega, rfl, ?_, ?_, grown_trans HGR.out (grown_setCell _ ⟨g, j, none⟩ _)⟩
          · rw [HMUL.out, HQ.out]
          · have := (World.ownsRow.stored HO.out j (.int .i64 st)).1
            rw [show (ints (downTo (strd s) (j + 1))).set j (Value.int .i64 st) = ints ((downTo (strd s) (j + 1)).set j st) by simp [ints, List.map_set]] at this
            have e2 := downTo_set (strd s) j (by rw [strd_len]; exact hjn)
            rw [strd_at hjn, ← HST.out] at e2
            rwa [e2] at this
        case measure => simp [intOf]
end Go.Proofs.Ytnebondinjjodaa
