/- Layer 16, walked: the reference's Below, Cells, Less. -/
import Derived.Test.YtbdbpamefkgelaaGreatDoorOrB
import Derived.Test.YtbdbpamefkgelaaGreatDoorVaW
namespace Go.Proofs.YtbdbpamefkgelaaGreatDoor
set_option maxRecDepth 100000
open Go.RowKit Fl
set_option linter.unusedVariables false

/-- An item's key. -/
def keyP (p : PI) : Int := if p.1 = 0 then V p.2.1 else p.2.2.1
theorem rbelow_calls (p q : PI) (sa sb : Value) (w : World) (hk : q.1 = p.1) (fa : p.1 = 0 → Fnt p.2.1 ∧ Fnt q.2.1) :
    Calls Tryz.prog 106 #[.agg #[.int .i64 p.1, .float .f64 p.2.1, .int .i32 p.2.2.1, sa], .agg #[.int .i64 q.1, .float .f64 q.2.1, .int .i32 q.2.2.1, sb]] w fun e w' => e = .returned (.bool (decide (keyP p < keyP q))) ∧ Below w.heap.size w w' := by
  obtain ⟨p1, p2, p3, p4⟩ := p
  obtain ⟨q1, q2, q3, q4⟩ := q
  dsimp only at hk fa ⊢
  subst hk
  by_cases h0 : q1 = 0
  · obtain ⟨f1, f2⟩ := fa h0
    subst h0
    have HK := Lib.hid (show decide (keyP ((0 : Int), p2, p3, p4) < keyP (0, q2, q3, q4)) = decide (V p2 < V q2) from rfl)
    rw [HK.out]
    rcases ord_both f1 f2 with ⟨hv, o1, o2⟩ | ⟨hv, o1, o2⟩ | ⟨hv, o1, o2⟩
    · rw [decide_eq_true hv]
      clear f1 f2 hv fa
      go_enter Tryz.func106, Tryz.ntmps106
      go_wp2
      go_ret
      exact ⟨rfl, (below_new _ _).alloc (by simp) _⟩
    · rw [decide_eq_false (by omega)]
      clear f1 f2 hv fa
      go_enter Tryz.func106, Tryz.ntmps106
      go_wp2
      go_ret
      exact ⟨rfl, (below_new _ _).alloc (by simp) _⟩
    · rw [decide_eq_false (by omega)]
      clear f1 f2 hv fa
      go_enter Tryz.func106, Tryz.ntmps106
      go_wp2
      go_ret
      exact ⟨rfl, (below_new _ _).alloc (by simp) _⟩
  · have HK := Lib.hid (show decide (keyP (q1, p2, p3, p4) < keyP (q1, q2, q3, q4)) = decide (p3 < q3) by unfold keyP; simp only; rw [if_neg h0, if_neg h0])
    rw [HK.out]
    have hq : (q1 == 0) = false := by simpa using h0
    clear h0 fa
    go_enter Tryz.func106, Tryz.ntmps106
    go_wp2
    go_ret
    exact ⟨rfl, (below_new _ _).alloc (by simp) _⟩
/-- Items of one kind, their keys. -/
def Keyed (l : List PI) (K : Nat → Int) : Prop := (∀ (i k : Nat) (p q : PI), l[i]? = some p → l[k]? = some q → q.1 = p.1 ∧ (p.1 = 0 → Fnt p.2.1 ∧ Fnt q.2.1)) ∧ ∀ (i : Nat) (p : PI), l[i]? = some p → keyP p = K i
theorem cmpK_step {K : Nat → Int} {size i k j : Nat} (hj : j < size) (h : ∀ m, m < j → K (i * size + m) = K (k * size + m)) (R : Int) (hR : cmpK K size i k = R) : (K (i * size + j) < K (k * size + j) → R = -1) ∧ (K (k * size + j) < K (i * size + j) → R = 1) := ⟨fun hl => hR ▸ cmpK_lt hj h hl, fun hl => hR ▸ cmpK_gt hj h hl⟩
set_option maxHeartbeats 8000000 in
theorem rcells_calls {ok : Nat → Prop} (v : Value) (l : List PI) (K : Nat → Int) (size i k : Nat) (w : World) (hv : Its w ok v l) (hK : Keyed l K) (hs : 0 < size) (hm : l.length ≤ 1048576) (hi : i < l.length / size) (hk : k < l.length / size) :
    Calls Tryz.prog 76 #[v, .int .i64 (size : Int), .int .i64 (i : Int), .int .i64 (k : Int)] w fun e w' => e = .returned (.int .i64 (cmpK K size i k)) ∧ Below w.heap.size w w' := by
  have HV := Lib.hid hv
  have HKY := Lib.hid hK
  have hin := cell_in hi
  have hkn := cell_in hk
  obtain ⟨ao, cap, rfl, _, _⟩ := hv.len
  obtain ⟨R, hR⟩ : ∃ R, cmpK K size i k = R := ⟨_, rfl⟩
  have HR := Lib.hid hR
  rw [hR]
  obtain ⟨P, hP⟩ : ∃ P, i * size = P := ⟨_, rfl⟩
  obtain ⟨S, hS⟩ : ∃ S, k * size = S := ⟨_, rfl⟩
  rw [hP] at hin
  rw [hS] at hkn
  have HP := Lib.hid hP
  have HS := Lib.hid hS
  have HIN := Lib.hid (And.intro hin (And.intro hkn hm))
  have hsm : size ≤ 1048576 := by omega
  have q1 : IntKind.i64.wrap ((i : Int) * (size : Int)) = (P : Int) := by rw [← Int.natCast_mul, hP]; exact IntWalk.i64_in _ (by omega)
  have q2 : IntKind.i64.wrap ((k : Int) * (size : Int)) = (S : Int) := by rw [← Int.natCast_mul, hS]; exact IntWalk.i64_in _ (by omega)
  clear hv hK hi hk hin hkn hR hP hS hm
  have HB := Lib.hid (Below.refl w.heap.size w)
  go_enter Tryz.func76, Tryz.ntmps76
  go_wp2_with fail
  go_loopw [9] (fun jv wr => ∃ j : Nat, j ≤ size ∧ jv = .int .i64 j ∧ (∀ m, m < j → K (P + m) = K (S + m)) ∧ Below w.heap.size w wr) (fun jv _ => size - (intOf jv).toNat)
  case atStart => exact ⟨0, by omega, rfl, fun m hm => absurd hm (Nat.not_lt_zero _), HB.out⟩
  case round =>
    obtain ⟨j, hj, rfl, heq, hBr⟩ := hrel
    have HE := Lib.hid heq
    clear heq
    replace HV := Lib.hid (HV.out.grow hBr)
    replace HB := Lib.hid hBr
    clear hBr
    by_cases hlt : j < size
    · have HLT := Lib.hid hlt
      obtain ⟨a, ha⟩ : ∃ a, P + j = a := ⟨_, rfl⟩
      obtain ⟨b, hb⟩ : ∃ b, S + j = b := ⟨_, rfl⟩
      have hal : a < l.length := by have := HIN.out; omega
      have hbl : b < l.length := by have := HIN.out; omega
      obtain ⟨x, hx⟩ : ∃ x, l[a]? = some x := ⟨_, List.getElem?_eq_getElem hal⟩
      obtain ⟨y, hy⟩ : ∃ y, l[b]? = some y := ⟨_, List.getElem?_eq_getElem hbl⟩
      obtain ⟨b0, o0, bo0, bc0, rfl, _, c0, c1, c2, c3, _⟩ := HV.out.at hx
      obtain ⟨b1, o1, bo1, bc1, e9, _, d0, d1, d2, d3, _⟩ := HV.out.at hy
      cases e9
      have HXY := Lib.hid (HKY.out.1 a b x y hx hy)
      have HYX := Lib.hid (HKY.out.1 b a y x hy hx)
      have HKX := Lib.hid (HKY.out.2 a x hx)
      have HKE := Lib.hid (HKY.out.2 b y hy)
      obtain ⟨kx, hkx⟩ : ∃ kx, keyP x = kx := ⟨_, rfl⟩
      obtain ⟨ke, hke⟩ : ∃ ke, keyP y = ke := ⟨_, rfl⟩
      rw [hkx] at HKX
      rw [hke] at HKE
      have HX := Lib.hid hkx
      have HY := Lib.hid hke
      have HAB := Lib.hid (And.intro ha hb)
      have a1 : IntKind.i64.wrap ((P : Int) + (j : Int)) = (a : Int) := by rw [← ha]; exact IntWalk.i64_in _ (by have := HIN.out; omega)
      have a2 : IntKind.i64.wrap ((S : Int) + (j : Int)) = (b : Int) := by rw [← hb]; exact IntWalk.i64_in _ (by have := HIN.out; omega)
      have a3 : (P : Int) + (j : Int) = (a : Int) := by omega
      have a4 : (S : Int) + (j : Int) = (b : Int) := by omega
      have a5 : IntKind.i64.wrap (a : Int) = (a : Int) := IntWalk.i64_in _ (by have := HIN.out; omega)
      have a6 : IntKind.i64.wrap (b : Int) = (b : Int) := IntWalk.i64_in _ (by have := HIN.out; omega)
      have a7 : (a : Int) < (l.length : Int) := by omega
      have a8 : (b : Int) < (l.length : Int) := by omega
      obtain ⟨sa, hsa⟩ : ∃ sa, Value.slice bo0 x.2.2.2.length bc0 = sa := ⟨_, rfl⟩
      obtain ⟨sb, hsb⟩ : ∃ sb, Value.slice bo1 y.2.2.2.length bc1 = sb := ⟨_, rfl⟩
      rw [hsa] at c3
      rw [hsb] at d3
      have HCC := Lib.hid (And.intro c0 (And.intro c1 (And.intro c2 (And.intro c3 (And.intro d0 (And.intro d1 (And.intro d2 d3)))))))
      clear ha hb hx hy c0 c1 c2 c3 d0 d1 d2 d3 hkx hke hsa hsb
      have cHCC0 := HCC.out.1
      have cHCC1 := HCC.out.2.1
      have cHCC2 := HCC.out.2.2.1
      have cHCC3 := HCC.out.2.2.2.1
      have cHCC4 := HCC.out.2.2.2.2.1
      have cHCC5 := HCC.out.2.2.2.2.2.1
      have cHCC6 := HCC.out.2.2.2.2.2.2.1
      have cHCC7 := HCC.out.2.2.2.2.2.2.2
      go_wp2_with fail
      obtain ⟨W11, hWD⟩ : ∃ xw9, wr.drew = xw9 := ⟨_, rfl⟩
      have hB : Below wr.heap.size wr W11 := by rw [← hWD]; exact Below.drewN' (Below.refl _ _) 1
      clear cHCC0 cHCC1 cHCC2 cHCC3 cHCC4 cHCC5 cHCC6 cHCC7
      replace HB := Lib.hid (HB.out.trans (hB.mono HB.out.size))
      replace HV := Lib.hid (HV.out.grow hB)
      replace HCC := Lib.hid (And.intro (keep_below hB _ _ HCC.out.1) (And.intro (keep_below hB _ _ HCC.out.2.1) (And.intro (keep_below hB _ _ HCC.out.2.2.1) (And.intro (keep_below hB _ _ HCC.out.2.2.2.1) (And.intro (keep_below hB _ _ HCC.out.2.2.2.2.1) (And.intro (keep_below hB _ _ HCC.out.2.2.2.2.2.1) (And.intro (keep_below hB _ _ HCC.out.2.2.2.2.2.2.1) (keep_below hB _ _ HCC.out.2.2.2.2.2.2.2))))))))
      clear hB
      refine wp_region_held_drew (S := fun w' => w'.cell? ⟨b0, o0 + a * 4, none⟩ = some (.int .i64 x.1) ∧ w'.cell? ⟨b0, o0 + a * 4 + 1, none⟩ = some (.float .f64 x.2.1) ∧ w'.cell? ⟨b0, o0 + a * 4 + 2, none⟩ = some (.int .i32 x.2.2.1) ∧ w'.cell? ⟨b0, o0 + a * 4 + 3, none⟩ = some (sa) ∧ w'.cell? ⟨b0, o0 + b * 4, none⟩ = some (.int .i64 y.1) ∧ w'.cell? ⟨b0, o0 + b * 4 + 1, none⟩ = some (.float .f64 y.2.1) ∧ w'.cell? ⟨b0, o0 + b * 4 + 2, none⟩ = some (.int .i32 y.2.2.1) ∧ w'.cell? ⟨b0, o0 + b * 4 + 3, none⟩ = some (sb)) (by kernel_rfl) (by rw [hWD]; exact ⟨HCC.out.1, HCC.out.2.1, HCC.out.2.2.1, HCC.out.2.2.2.1, HCC.out.2.2.2.2.1, HCC.out.2.2.2.2.2.1, HCC.out.2.2.2.2.2.2.1, HCC.out.2.2.2.2.2.2.2⟩) (fun hHeld => ?_)
      rw [hWD] at hHeld ⊢
      clear hWD
      refine wpAnyH_take (i := 0) (v := ?_) rfl (by kernel_rfl) (by kernel_rfl) (by kernel_rfl) (fun _ _ _ h => h) (Or.inl ⟨by rfl, ?_⟩) (by assumption) ?_
      rotate_left
      · (intro w hSw; (try dsimp only at hSw); go_simp; try with_reducible rfl)
      simp only [Act.put, List.getElem_toArray, List.getElem_cons_zero, List.setIfInBounds_toArray, List.set_cons_zero, List.set_cons_succ]
      refine wpAnyH_take (i := 1) (v := ?_) rfl (by kernel_rfl) (by kernel_rfl) (by kernel_rfl) (fun _ _ _ h => h) (Or.inl ⟨by rfl, ?_⟩) (by assumption) ?_
      rotate_left
      · (intro w hSw; (try dsimp only at hSw); go_simp; try with_reducible rfl)
      simp only [Act.put, List.getElem_toArray, List.getElem_cons_succ, List.getElem_cons_zero, List.setIfInBounds_toArray, List.set_cons_zero, List.set_cons_succ]
      refine wpAnyH_take (i := 2) (v := ?_) rfl (by kernel_rfl) (by kernel_rfl) (by kernel_rfl) (fun _ _ _ h => h) (Or.inl ⟨by rfl, ?_⟩) (by assumption) ?_
      rotate_left
      · (intro w hSw; (try dsimp only at hSw); go_simp; try with_reducible rfl)
      simp only [Act.put, List.getElem_toArray, List.getElem_cons_succ, List.getElem_cons_zero, List.setIfInBounds_toArray, List.set_cons_zero, List.set_cons_succ]
      refine wpAnyH_take (i := 3) (v := ?_) rfl (by kernel_rfl) (by kernel_rfl) (by kernel_rfl) (fun _ _ _ h => h) (Or.inl ⟨by rfl, ?_⟩) (by assumption) ?_
      rotate_left
      · (intro w hSw; (try dsimp only at hSw); go_simp; try with_reducible rfl)
      simp only [Act.put, List.getElem_toArray, List.getElem_cons_succ, List.getElem_cons_zero, List.setIfInBounds_toArray, List.set_cons_zero, List.set_cons_succ]
      refine wpAnyH_take (i := 4) (v := ?_) rfl (by kernel_rfl) (by kernel_rfl) (by kernel_rfl) (fun _ _ _ h => h) (Or.inl ⟨by rfl, ?_⟩) (by assumption) ?_
      rotate_left
      · (intro w hSw; (try dsimp only at hSw); go_simp; try with_reducible rfl)
      simp only [Act.put, List.getElem_toArray, List.getElem_cons_succ, List.getElem_cons_zero, List.setIfInBounds_toArray, List.set_cons_zero, List.set_cons_succ]
      refine wpAnyH_take (i := 5) (v := ?_) rfl (by kernel_rfl) (by kernel_rfl) (by kernel_rfl) (fun _ _ _ h => h) (Or.inl ⟨by rfl, ?_⟩) (by assumption) ?_
      rotate_left
      · (intro w hSw; (try dsimp only at hSw); go_simp; try with_reducible rfl)
      simp only [Act.put, List.getElem_toArray, List.getElem_cons_succ, List.getElem_cons_zero, List.setIfInBounds_toArray, List.set_cons_zero, List.set_cons_succ]
      refine wpAnyH_take (i := 6) (v := ?_) rfl (by kernel_rfl) (by kernel_rfl) (by kernel_rfl) (fun _ _ _ h => h) (Or.inl ⟨by rfl, ?_⟩) (by assumption) ?_
      rotate_left
      · (intro w hSw; (try dsimp only at hSw); go_simp; try with_reducible rfl)
      simp only [Act.put, List.getElem_toArray, List.getElem_cons_succ, List.getElem_cons_zero, List.setIfInBounds_toArray, List.set_cons_zero, List.set_cons_succ]
      refine wpAnyH_take (i := 7) (v := ?_) rfl (by kernel_rfl) (by kernel_rfl) (by kernel_rfl) (fun _ _ _ h => h) (Or.inl ⟨by rfl, ?_⟩) (by assumption) ?_
      rotate_left
      · (intro w hSw; (try dsimp only at hSw); go_simp; try with_reducible rfl)
      simp only [Act.put, List.getElem_toArray, List.getElem_cons_succ, List.getElem_cons_zero, List.setIfInBounds_toArray, List.set_cons_zero, List.set_cons_succ]
      refine wpAnyH_take (i := 8) (v := ?_) rfl (by kernel_rfl) (by kernel_rfl) (by kernel_rfl) (fun _ _ _ h => h) (Or.inl ⟨by rfl, ?_⟩) (by assumption) ?_
      rotate_left
      · (intro w hSw; (try dsimp only at hSw); go_simp; try with_reducible rfl)
      simp only [Act.put, List.getElem_toArray, List.getElem_cons_succ, List.getElem_cons_zero, List.setIfInBounds_toArray, List.set_cons_zero, List.set_cons_succ]
      refine wpAnyH_take (i := 9) (v := ?_) rfl (by kernel_rfl) (by kernel_rfl) (by kernel_rfl) (fun _ _ _ h => h) (Or.inl ⟨by rfl, ?_⟩) (by assumption) ?_
      rotate_left
      · (intro w hSw; (try dsimp only at hSw); go_simp; try with_reducible rfl)
      simp only [Act.put, List.getElem_toArray, List.getElem_cons_succ, List.getElem_cons_zero, List.setIfInBounds_toArray, List.set_cons_zero, List.set_cons_succ]
      refine wpAnyH_take (i := 10) (v := ?_) rfl (by kernel_rfl) (by kernel_rfl) (by kernel_rfl) (fun _ _ _ h => h) (Or.inl ⟨by rfl, ?_⟩) (by assumption) ?_
      rotate_left
      · (intro w hSw; (try dsimp only at hSw); go_simp; try with_reducible rfl)
      simp only [Act.put, List.getElem_toArray, List.getElem_cons_succ, List.getElem_cons_zero, List.setIfInBounds_toArray, List.set_cons_zero, List.set_cons_succ]
      refine wpAnyH_take (i := 11) (v := ?_) rfl (by kernel_rfl) (by kernel_rfl) (by kernel_rfl) (fun _ _ _ h => h) (Or.inl ⟨by rfl, ?_⟩) (by assumption) ?_
      rotate_left
      · (intro w hSw; (try dsimp only at hSw); go_simp; try with_reducible rfl)
      simp only [Act.put, List.getElem_toArray, List.getElem_cons_succ, List.getElem_cons_zero, List.setIfInBounds_toArray, List.set_cons_zero, List.set_cons_succ]
      refine wpAnyH_take (i := 12) (v := ?_) rfl (by kernel_rfl) (by kernel_rfl) (by kernel_rfl) (fun _ _ _ h => h) (Or.inl ⟨by rfl, ?_⟩) (by assumption) ?_
      rotate_left
      · (intro w hSw; (try dsimp only at hSw); go_simp; try with_reducible rfl)
      simp only [Act.put, List.getElem_toArray, List.getElem_cons_succ, List.getElem_cons_zero, List.setIfInBounds_toArray, List.set_cons_zero, List.set_cons_succ]
      refine wpAnyH_take (i := 13) (v := ?_) rfl (by kernel_rfl) (by kernel_rfl) (by kernel_rfl) (fun _ _ _ h => h) (Or.inl ⟨by rfl, ?_⟩) (by assumption) ?_
      rotate_left
      · (intro w hSw; (try dsimp only at hSw); go_simp; try with_reducible rfl)
      simp only [Act.put, List.getElem_toArray, List.getElem_cons_succ, List.getElem_cons_zero, List.setIfInBounds_toArray, List.set_cons_zero, List.set_cons_succ]
      refine wpAnyH_take (i := 14) (v := ?_) rfl (by kernel_rfl) (by kernel_rfl) (by kernel_rfl) (fun _ _ _ h => h) (Or.inl ⟨by rfl, ?_⟩) (by assumption) ?_
      rotate_left
      · (intro w hSw; (try dsimp only at hSw); go_simp; try with_reducible rfl)
      simp only [Act.put, List.getElem_toArray, List.getElem_cons_succ, List.getElem_cons_zero, List.setIfInBounds_toArray, List.set_cons_zero, List.set_cons_succ]
      refine wpAnyH_take (i := 15) (v := ?_) rfl (by kernel_rfl) (by kernel_rfl) (by kernel_rfl) (fun _ _ _ h => h) (Or.inl ⟨by rfl, ?_⟩) (by assumption) ?_
      rotate_left
      · (intro w hSw; (try dsimp only at hSw); go_simp; try with_reducible rfl)
      simp only [Act.put, List.getElem_toArray, List.getElem_cons_succ, List.getElem_cons_zero, List.setIfInBounds_toArray, List.set_cons_zero, List.set_cons_succ]
      refine wpAnyH_ready (rs := [16]) (by kernel_rfl) (by simp) ?_
      refine AllReadyH.cons (o := _) rfl (fun K hK => ?_) AllReadyH.nil
      clear hHeld
      go_simp
      refine (rbelow_calls x y sa sb _ HXY.out.1 HXY.out.2).mono ?_
      rintro e W12 ⟨rfl, hB⟩
      replace HB := Lib.hid (HB.out.trans (hB.mono HB.out.size))
      replace HV := Lib.hid (HV.out.grow hB)
      replace HCC := Lib.hid (And.intro (keep_below hB _ _ HCC.out.1) (And.intro (keep_below hB _ _ HCC.out.2.1) (And.intro (keep_below hB _ _ HCC.out.2.2.1) (And.intro (keep_below hB _ _ HCC.out.2.2.2.1) (And.intro (keep_below hB _ _ HCC.out.2.2.2.2.1) (And.intro (keep_below hB _ _ HCC.out.2.2.2.2.2.1) (And.intro (keep_below hB _ _ HCC.out.2.2.2.2.2.2.1) (keep_below hB _ _ HCC.out.2.2.2.2.2.2.2))))))))
      rw [HX.out, HY.out]
      clear hB
      try go_simp
      refine hK.out _ _ ?_ (fun hHeld => ?_)
      · exact ⟨HCC.out.1, HCC.out.2.1, HCC.out.2.2.1, HCC.out.2.2.2.1, HCC.out.2.2.2.2.1, HCC.out.2.2.2.2.2.1, HCC.out.2.2.2.2.2.2.1, HCC.out.2.2.2.2.2.2.2⟩
      clear hK K
      refine wpAnyH_done (by kernel_rfl) ?_ _
      clear hHeld
      by_cases h1 : kx < ke
      · rw [decide_eq_true h1]
        have HLL := Lib.hid h1
        clear h1
        have cHCC0 := HCC.out.1
        have cHCC1 := HCC.out.2.1
        have cHCC2 := HCC.out.2.2.1
        have cHCC3 := HCC.out.2.2.2.1
        have cHCC4 := HCC.out.2.2.2.2.1
        have cHCC5 := HCC.out.2.2.2.2.2.1
        have cHCC6 := HCC.out.2.2.2.2.2.2.1
        have cHCC7 := HCC.out.2.2.2.2.2.2.2
        go_wp2_with fail
        have hrv : R = -1 := (cmpK_step HLT.out (fun m hm => by rw [HP.out, HS.out]; exact HE.out m hm) R HR.out).1 (by rw [HP.out, HS.out, HAB.out.1, HAB.out.2, ← HKX.out, ← HKE.out]; exact HLL.out)
        go_ret
        exact ⟨by rw [hrv]; rfl, HB.out⟩
      rw [decide_eq_false h1]
      have HNL := Lib.hid h1
      clear h1
      have cHCC0 := HCC.out.1
      have cHCC1 := HCC.out.2.1
      have cHCC2 := HCC.out.2.2.1
      have cHCC3 := HCC.out.2.2.2.1
      have cHCC4 := HCC.out.2.2.2.2.1
      have cHCC5 := HCC.out.2.2.2.2.2.1
      have cHCC6 := HCC.out.2.2.2.2.2.2.1
      have cHCC7 := HCC.out.2.2.2.2.2.2.2
      go_wp2_with fail
      obtain ⟨W13, hWD⟩ : ∃ xw9, W12.drew = xw9 := ⟨_, rfl⟩
      have hB : Below W12.heap.size W12 W13 := by rw [← hWD]; exact Below.drewN' (Below.refl _ _) 1
      clear cHCC0 cHCC1 cHCC2 cHCC3 cHCC4 cHCC5 cHCC6 cHCC7
      replace HB := Lib.hid (HB.out.trans (hB.mono HB.out.size))
      replace HV := Lib.hid (HV.out.grow hB)
      replace HCC := Lib.hid (And.intro (keep_below hB _ _ HCC.out.1) (And.intro (keep_below hB _ _ HCC.out.2.1) (And.intro (keep_below hB _ _ HCC.out.2.2.1) (And.intro (keep_below hB _ _ HCC.out.2.2.2.1) (And.intro (keep_below hB _ _ HCC.out.2.2.2.2.1) (And.intro (keep_below hB _ _ HCC.out.2.2.2.2.2.1) (And.intro (keep_below hB _ _ HCC.out.2.2.2.2.2.2.1) (keep_below hB _ _ HCC.out.2.2.2.2.2.2.2))))))))
      clear hB
      refine wp_region_held_drew (S := fun w' => w'.cell? ⟨b0, o0 + a * 4, none⟩ = some (.int .i64 x.1) ∧ w'.cell? ⟨b0, o0 + a * 4 + 1, none⟩ = some (.float .f64 x.2.1) ∧ w'.cell? ⟨b0, o0 + a * 4 + 2, none⟩ = some (.int .i32 x.2.2.1) ∧ w'.cell? ⟨b0, o0 + a * 4 + 3, none⟩ = some (sa) ∧ w'.cell? ⟨b0, o0 + b * 4, none⟩ = some (.int .i64 y.1) ∧ w'.cell? ⟨b0, o0 + b * 4 + 1, none⟩ = some (.float .f64 y.2.1) ∧ w'.cell? ⟨b0, o0 + b * 4 + 2, none⟩ = some (.int .i32 y.2.2.1) ∧ w'.cell? ⟨b0, o0 + b * 4 + 3, none⟩ = some (sb)) (by kernel_rfl) (by rw [hWD]; exact ⟨HCC.out.1, HCC.out.2.1, HCC.out.2.2.1, HCC.out.2.2.2.1, HCC.out.2.2.2.2.1, HCC.out.2.2.2.2.2.1, HCC.out.2.2.2.2.2.2.1, HCC.out.2.2.2.2.2.2.2⟩) (fun hHeld => ?_)
      rw [hWD] at hHeld ⊢
      clear hWD
      refine wpAnyH_take (i := 0) (v := ?_) rfl (by kernel_rfl) (by kernel_rfl) (by kernel_rfl) (fun _ _ _ h => h) (Or.inl ⟨by rfl, ?_⟩) (by assumption) ?_
      rotate_left
      · (intro w hSw; (try dsimp only at hSw); go_simp; try with_reducible rfl)
      simp only [Act.put, List.getElem_toArray, List.getElem_cons_zero, List.setIfInBounds_toArray, List.set_cons_zero, List.set_cons_succ]
      refine wpAnyH_take (i := 1) (v := ?_) rfl (by kernel_rfl) (by kernel_rfl) (by kernel_rfl) (fun _ _ _ h => h) (Or.inl ⟨by rfl, ?_⟩) (by assumption) ?_
      rotate_left
      · (intro w hSw; (try dsimp only at hSw); go_simp; try with_reducible rfl)
      simp only [Act.put, List.getElem_toArray, List.getElem_cons_succ, List.getElem_cons_zero, List.setIfInBounds_toArray, List.set_cons_zero, List.set_cons_succ]
      refine wpAnyH_take (i := 2) (v := ?_) rfl (by kernel_rfl) (by kernel_rfl) (by kernel_rfl) (fun _ _ _ h => h) (Or.inl ⟨by rfl, ?_⟩) (by assumption) ?_
      rotate_left
      · (intro w hSw; (try dsimp only at hSw); go_simp; try with_reducible rfl)
      simp only [Act.put, List.getElem_toArray, List.getElem_cons_succ, List.getElem_cons_zero, List.setIfInBounds_toArray, List.set_cons_zero, List.set_cons_succ]
      refine wpAnyH_take (i := 3) (v := ?_) rfl (by kernel_rfl) (by kernel_rfl) (by kernel_rfl) (fun _ _ _ h => h) (Or.inl ⟨by rfl, ?_⟩) (by assumption) ?_
      rotate_left
      · (intro w hSw; (try dsimp only at hSw); go_simp; try with_reducible rfl)
      simp only [Act.put, List.getElem_toArray, List.getElem_cons_succ, List.getElem_cons_zero, List.setIfInBounds_toArray, List.set_cons_zero, List.set_cons_succ]
      refine wpAnyH_take (i := 4) (v := ?_) rfl (by kernel_rfl) (by kernel_rfl) (by kernel_rfl) (fun _ _ _ h => h) (Or.inl ⟨by rfl, ?_⟩) (by assumption) ?_
      rotate_left
      · (intro w hSw; (try dsimp only at hSw); go_simp; try with_reducible rfl)
      simp only [Act.put, List.getElem_toArray, List.getElem_cons_succ, List.getElem_cons_zero, List.setIfInBounds_toArray, List.set_cons_zero, List.set_cons_succ]
      refine wpAnyH_take (i := 5) (v := ?_) rfl (by kernel_rfl) (by kernel_rfl) (by kernel_rfl) (fun _ _ _ h => h) (Or.inl ⟨by rfl, ?_⟩) (by assumption) ?_
      rotate_left
      · (intro w hSw; (try dsimp only at hSw); go_simp; try with_reducible rfl)
      simp only [Act.put, List.getElem_toArray, List.getElem_cons_succ, List.getElem_cons_zero, List.setIfInBounds_toArray, List.set_cons_zero, List.set_cons_succ]
      refine wpAnyH_take (i := 6) (v := ?_) rfl (by kernel_rfl) (by kernel_rfl) (by kernel_rfl) (fun _ _ _ h => h) (Or.inl ⟨by rfl, ?_⟩) (by assumption) ?_
      rotate_left
      · (intro w hSw; (try dsimp only at hSw); go_simp; try with_reducible rfl)
      simp only [Act.put, List.getElem_toArray, List.getElem_cons_succ, List.getElem_cons_zero, List.setIfInBounds_toArray, List.set_cons_zero, List.set_cons_succ]
      refine wpAnyH_take (i := 7) (v := ?_) rfl (by kernel_rfl) (by kernel_rfl) (by kernel_rfl) (fun _ _ _ h => h) (Or.inl ⟨by rfl, ?_⟩) (by assumption) ?_
      rotate_left
      · (intro w hSw; (try dsimp only at hSw); go_simp; try with_reducible rfl)
      simp only [Act.put, List.getElem_toArray, List.getElem_cons_succ, List.getElem_cons_zero, List.setIfInBounds_toArray, List.set_cons_zero, List.set_cons_succ]
      refine wpAnyH_take (i := 8) (v := ?_) rfl (by kernel_rfl) (by kernel_rfl) (by kernel_rfl) (fun _ _ _ h => h) (Or.inl ⟨by rfl, ?_⟩) (by assumption) ?_
      rotate_left
      · (intro w hSw; (try dsimp only at hSw); go_simp; try with_reducible rfl)
      simp only [Act.put, List.getElem_toArray, List.getElem_cons_succ, List.getElem_cons_zero, List.setIfInBounds_toArray, List.set_cons_zero, List.set_cons_succ]
      refine wpAnyH_take (i := 9) (v := ?_) rfl (by kernel_rfl) (by kernel_rfl) (by kernel_rfl) (fun _ _ _ h => h) (Or.inl ⟨by rfl, ?_⟩) (by assumption) ?_
      rotate_left
      · (intro w hSw; (try dsimp only at hSw); go_simp; try with_reducible rfl)
      simp only [Act.put, List.getElem_toArray, List.getElem_cons_succ, List.getElem_cons_zero, List.setIfInBounds_toArray, List.set_cons_zero, List.set_cons_succ]
      refine wpAnyH_take (i := 10) (v := ?_) rfl (by kernel_rfl) (by kernel_rfl) (by kernel_rfl) (fun _ _ _ h => h) (Or.inl ⟨by rfl, ?_⟩) (by assumption) ?_
      rotate_left
      · (intro w hSw; (try dsimp only at hSw); go_simp; try with_reducible rfl)
      simp only [Act.put, List.getElem_toArray, List.getElem_cons_succ, List.getElem_cons_zero, List.setIfInBounds_toArray, List.set_cons_zero, List.set_cons_succ]
      refine wpAnyH_take (i := 11) (v := ?_) rfl (by kernel_rfl) (by kernel_rfl) (by kernel_rfl) (fun _ _ _ h => h) (Or.inl ⟨by rfl, ?_⟩) (by assumption) ?_
      rotate_left
      · (intro w hSw; (try dsimp only at hSw); go_simp; try with_reducible rfl)
      simp only [Act.put, List.getElem_toArray, List.getElem_cons_succ, List.getElem_cons_zero, List.setIfInBounds_toArray, List.set_cons_zero, List.set_cons_succ]
      refine wpAnyH_take (i := 12) (v := ?_) rfl (by kernel_rfl) (by kernel_rfl) (by kernel_rfl) (fun _ _ _ h => h) (Or.inl ⟨by rfl, ?_⟩) (by assumption) ?_
      rotate_left
      · (intro w hSw; (try dsimp only at hSw); go_simp; try with_reducible rfl)
      simp only [Act.put, List.getElem_toArray, List.getElem_cons_succ, List.getElem_cons_zero, List.setIfInBounds_toArray, List.set_cons_zero, List.set_cons_succ]
      refine wpAnyH_take (i := 13) (v := ?_) rfl (by kernel_rfl) (by kernel_rfl) (by kernel_rfl) (fun _ _ _ h => h) (Or.inl ⟨by rfl, ?_⟩) (by assumption) ?_
      rotate_left
      · (intro w hSw; (try dsimp only at hSw); go_simp; try with_reducible rfl)
      simp only [Act.put, List.getElem_toArray, List.getElem_cons_succ, List.getElem_cons_zero, List.setIfInBounds_toArray, List.set_cons_zero, List.set_cons_succ]
      refine wpAnyH_take (i := 14) (v := ?_) rfl (by kernel_rfl) (by kernel_rfl) (by kernel_rfl) (fun _ _ _ h => h) (Or.inl ⟨by rfl, ?_⟩) (by assumption) ?_
      rotate_left
      · (intro w hSw; (try dsimp only at hSw); go_simp; try with_reducible rfl)
      simp only [Act.put, List.getElem_toArray, List.getElem_cons_succ, List.getElem_cons_zero, List.setIfInBounds_toArray, List.set_cons_zero, List.set_cons_succ]
      refine wpAnyH_take (i := 15) (v := ?_) rfl (by kernel_rfl) (by kernel_rfl) (by kernel_rfl) (fun _ _ _ h => h) (Or.inl ⟨by rfl, ?_⟩) (by assumption) ?_
      rotate_left
      · (intro w hSw; (try dsimp only at hSw); go_simp; try with_reducible rfl)
      simp only [Act.put, List.getElem_toArray, List.getElem_cons_succ, List.getElem_cons_zero, List.setIfInBounds_toArray, List.set_cons_zero, List.set_cons_succ]
      refine wpAnyH_ready (rs := [16]) (by kernel_rfl) (by simp) ?_
      refine AllReadyH.cons (o := _) rfl (fun K hK => ?_) AllReadyH.nil
      clear hHeld
      go_simp
      refine (rbelow_calls y x sb sa _ HYX.out.1 HYX.out.2).mono ?_
      rintro e W14 ⟨rfl, hB⟩
      replace HB := Lib.hid (HB.out.trans (hB.mono HB.out.size))
      replace HV := Lib.hid (HV.out.grow hB)
      replace HCC := Lib.hid (And.intro (keep_below hB _ _ HCC.out.1) (And.intro (keep_below hB _ _ HCC.out.2.1) (And.intro (keep_below hB _ _ HCC.out.2.2.1) (And.intro (keep_below hB _ _ HCC.out.2.2.2.1) (And.intro (keep_below hB _ _ HCC.out.2.2.2.2.1) (And.intro (keep_below hB _ _ HCC.out.2.2.2.2.2.1) (And.intro (keep_below hB _ _ HCC.out.2.2.2.2.2.2.1) (keep_below hB _ _ HCC.out.2.2.2.2.2.2.2))))))))
      rw [HX.out, HY.out]
      clear hB
      try go_simp
      refine hK.out _ _ ?_ (fun hHeld => ?_)
      · exact ⟨HCC.out.1, HCC.out.2.1, HCC.out.2.2.1, HCC.out.2.2.2.1, HCC.out.2.2.2.2.1, HCC.out.2.2.2.2.2.1, HCC.out.2.2.2.2.2.2.1, HCC.out.2.2.2.2.2.2.2⟩
      clear hK K
      refine wpAnyH_done (by kernel_rfl) ?_ _
      clear hHeld
      by_cases h2 : ke < kx
      · rw [decide_eq_true h2]
        have HLL := Lib.hid h2
        clear h2
        have cHCC0 := HCC.out.1
        have cHCC1 := HCC.out.2.1
        have cHCC2 := HCC.out.2.2.1
        have cHCC3 := HCC.out.2.2.2.1
        have cHCC4 := HCC.out.2.2.2.2.1
        have cHCC5 := HCC.out.2.2.2.2.2.1
        have cHCC6 := HCC.out.2.2.2.2.2.2.1
        have cHCC7 := HCC.out.2.2.2.2.2.2.2
        go_wp2_with fail
        have hrv : R = 1 := (cmpK_step HLT.out (fun m hm => by rw [HP.out, HS.out]; exact HE.out m hm) R HR.out).2 (by rw [HP.out, HS.out, HAB.out.1, HAB.out.2, ← HKX.out, ← HKE.out]; exact HLL.out)
        go_ret
        exact ⟨by rw [hrv]; rfl, HB.out⟩
      rw [decide_eq_false h2]
      have HNG := Lib.hid h2
      clear h2
      have cHCC0 := HCC.out.1
      have cHCC1 := HCC.out.2.1
      have cHCC2 := HCC.out.2.2.1
      have cHCC3 := HCC.out.2.2.2.1
      have cHCC4 := HCC.out.2.2.2.2.1
      have cHCC5 := HCC.out.2.2.2.2.2.1
      have cHCC6 := HCC.out.2.2.2.2.2.2.1
      have cHCC7 := HCC.out.2.2.2.2.2.2.2
      go_wp2_with fail
      go_roundw
      case rel => exact ⟨j + 1, by omega, by go_num, fun m hm => by
        by_cases hmj : m < j
        · exact HE.out m hmj
        · rw [show m = j by omega, HAB.out.1, HAB.out.2, ← HKX.out, ← HKE.out]; have := HNL.out; have := HNG.out; omega, HB.out⟩
      case measure => simp [intOf]; omega
    · have HRV := Lib.hid (show R = 0 by rw [← HR.out]; exact cmpK_eq (fun m hm => by rw [HP.out, HS.out]; exact HE.out m (by omega)))
      go_wp2_with fail
      go_ret
      exact ⟨by rw [HRV.out]; rfl, HB.out⟩

set_option maxHeartbeats 4000000 in
theorem rless_calls {ok : Nat → Prop} (v : Value) (l : List PI) (K : Nat → Int) (size i k : Nat) (down : Bool) (w : World) (hv : Its w ok v l) (hK : Keyed l K) (hs : 0 < size) (hm : l.length ≤ 1048576) (hi : i < l.length / size) (hk : k < l.length / size) :
    Calls Tryz.prog 40 #[v, .int .i64 (size : Int), .int .i64 (i : Int), .int .i64 (k : Int), .bool down] w fun e w' => e = .returned (.bool (lesK K size down i k)) ∧ Below w.heap.size w w' := by
  have HV := Lib.hid hv
  have HKY := Lib.hid hK
  have HM := Lib.hid (And.intro hs (And.intro hm (And.intro hi hk)))
  obtain ⟨C, hC⟩ : ∃ C, cmpK K size i k = C := ⟨_, rfl⟩
  have HCC := Lib.hid hC
  have HC3 := Lib.hid (show C = -1 ∨ C = 0 ∨ C = 1 by rw [← hC]; exact lexI_cases _ _)
  have HL := Lib.hid (show lesK K size down i k = decide ((if down = true then -C else C) < 0 ∨ (if down = true then -C else C) = 0 ∧ i < k) by unfold lesK; rw [hC])
  obtain ⟨L, hL⟩ : ∃ L, lesK K size down i k = L := ⟨_, rfl⟩
  rw [hL] at HL ⊢
  have HB := Lib.hid (Below.refl w.heap.size w)
  clear hv hK hm hi hk hs hC hL
  go_enter Tryz.func40, Tryz.ntmps40
  go_wp2_with fail
  refine (rcells_calls _ l K size i k _ HV.out HKY.out HM.out.1 HM.out.2.1 HM.out.2.2.1 HM.out.2.2.2).mono ?_
  rintro e W11 ⟨rfl, hB⟩
  replace HB := Lib.hid (HB.out.trans (hB.mono HB.out.size))
  replace HV := Lib.hid (HV.out.grow hB)
  rw [HCC.out]
  clear hB
  rcases HC3.out with rfl | rfl | rfl
  · cases down
    · go_wp2_with fail
      go_ret
      exact ⟨by rw [HL.out]; rfl, HB.out⟩
    · go_wp2_with fail
      go_ret
      exact ⟨by rw [HL.out]; rfl, HB.out⟩
  · have hz := Lib.hid (show L = decide (i < k) by rw [HL.out]; cases down <;> simp)
    cases down
    · go_wp2_with fail
      go_ret
      exact ⟨by rw [hz.out]; rfl, HB.out⟩
    · go_wp2_with fail
      go_ret
      exact ⟨by rw [hz.out]; rfl, HB.out⟩
  · cases down
    · go_wp2_with fail
      go_ret
      exact ⟨by rw [HL.out]; rfl, HB.out⟩
    · go_wp2_with fail
      go_ret
      exact ⟨by rw [HL.out]; rfl, HB.out⟩
end Go.Proofs.YtbdbpamefkgelaaGreatDoor
