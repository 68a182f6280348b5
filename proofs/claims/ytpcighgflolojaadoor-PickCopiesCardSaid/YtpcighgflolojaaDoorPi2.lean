/- Layer 15's law: PickCopies. -/
import Derived.Test.YtpcighgflolojaaDoorMgPi1
import Derived.Test.YtpcighgflolojaaDoorMgVe1
import Derived.Test.YtpcighgflolojaaDoorMgNu1
namespace Go.Proofs.YtpcighgflolojaaDoor
set_option maxRecDepth 100000
open Go.RowKit Fl
set_option linter.unusedVariables false

theorem pcopies_chars {ok : Nat → Prop} (u : Value) (most : Nat) (w : World) (h : IsV w ok u (.chars [])) (hmo : most ≤ 1048576) (hT : TabAt w) :
    Calls Tryd.prog 8 #[.agg #[u], .int .i64 0, .int .i64 (most : Int)] w fun e w' => ∃ v, e = .returned (.tuple #[v, .int .i64 24]) ∧ Slc w' (fun _ => True) v 0 [] ∧ Below w.heap.size w w' := by
  have := pcopies_calls u (.chars []) 0 most w h (by show ([] : List Int).length ≤ 1048576; decide) (fun h9 => by cases h9) (by decide) hmo (fun z hz => by cases hz) hT
  rw [show cpE (.chars []) 0 most = 24 from rfl, show cpL (.chars []) 0 most = [] from rfl] at this
  exact this
theorem pcopies_sq {ok : Nat → Prop} (u : Value) (t : List Nat) (n most : Nat) (E : Int) (L : List Int) (w : World) (h : IsV w ok u (VV.floats t).sq) (hl : t.length ≤ 1048576) (hN : ∀ x ∈ t, Num x) (hn : n ≤ 1048576) (hmo : most ≤ 1048576)
    (hEL : (∀ x ∈ t, ∃ n, Wh x n) ∧ E = cpEw (t.map wnOf) n most ∧ L = cpLw (t.map wnOf) n most ∨ (¬ ∀ x ∈ t, ∃ n, Wh x n) ∧ E = 24 ∧ L = []) (hT : TabAt w) :
    Calls Tryd.prog 8 #[.agg #[u], .int .i64 (n : Int), .int .i64 (most : Int)] w fun e w' => ∃ v, e = .returned (.tuple #[v, .int .i64 E]) ∧ Slc w' (fun _ => True) v L.length (ints L) ∧ Below w.heap.size w w' := by
  obtain ⟨a, b, c, d, e⟩ := sq_facts hl hN
  rcases hEL with ⟨hW, rfl, rfl⟩ | ⟨hW, rfl, rfl⟩
  · obtain ⟨h1, h2, h3⟩ := sq_yes hl hN hW
    have := pcopies_calls u _ n most w h a e hn hmo h3 hT
    unfold cpE cpL at this
    rw [h1, if_pos rfl, if_pos rfl, h2] at this
    exact this
  · obtain ⟨h1, h3⟩ := sq_no hl hN hW
    have := pcopies_calls u _ n most w h a e hn hmo h3 hT
    unfold cpE cpL at this
    rw [h1] at this
    exact this
theorem rcopies_any {ok : Nat → Prop} (v : Value) (t : List Nat) (n most : Nat) (E : Int) (L : List Int) (w : World) (hv : Slc w ok v t.length (f64s t)) (hl : t.length ≤ 1048576) (hN : ∀ x ∈ t, Num x) (hn : n ≤ 1048576) (hmo : most ≤ 1048576)
    (hEL : (∀ x ∈ t, ∃ n, Wh x n) ∧ E = cpEw (t.map wnOf) n most ∧ L = cpLw (t.map wnOf) n most ∨ (¬ ∀ x ∈ t, ∃ n, Wh x n) ∧ E = 24 ∧ L = []) :
    Calls Tryd.prog 9 #[v, .int .i64 (n : Int), .int .i64 (most : Int)] w fun e w' => ∃ v, e = .returned (.tuple #[v, .int .i64 E]) ∧ Slc w' (fun _ => True) v L.length (ints L) ∧ Below w.heap.size w w' := by
  rcases hEL with ⟨hW, rfl, rfl⟩ | ⟨hW, rfl, rfl⟩
  · exact rcopies_yes v t n most w hv hl hN hW hn hmo
  · refine (rcopies_no v t n most w hv hl hN hW).mono ?_
    rintro e w' ⟨rfl, rfl⟩
    exact ⟨_, rfl, Slc.nil _ _, Below.refl _ _⟩
theorem cp_len (s : List Int) (n most : Nat) (E : Int) (L : List Int) (t : List Nat) (hmo : most ≤ 1000)
    (hEL : (∀ x ∈ t, ∃ n, Wh x n) ∧ E = cpEw (t.map wnOf) n most ∧ L = cpLw (t.map wnOf) n most ∨ (¬ ∀ x ∈ t, ∃ n, Wh x n) ∧ E = 24 ∧ L = []) : L.length ≤ 1000 := by
  rcases hEL with ⟨_, _, rfl⟩ | ⟨_, _, rfl⟩
  · unfold cpLw
    split
    · rename_i h
      unfold cpEw at h
      split at h
      · split at h
        · omega
        · cases h
      · cases h
    · exact Nat.zero_le _
  · exact Nat.zero_le _
set_option maxHeartbeats 16000000 in
theorem pickCopies_walk (va : Value) (l : List Nat) (nn mo : Int) (w : World) (hva : Slc w (fun _ => True) va l.length (f64s l)) (hwa : ∀ x ∈ l, x < 18446744073709551616) (hla : l.length ≤ maxLen) (hT : TabAt w) :
    Calls Tryd.prog 3 #[va, .int .i64 nn, .int .i64 mo] w (Yes15 w) := by
  have HVA := Lib.hid hva
  have HT := Lib.hid hT
  have HT0 := Lib.hid hT
  have HWA := Lib.hid hwa
  have HB := Lib.hid (Below.refl w.heap.size w)
  obtain ⟨ao, cap, rfl, _⟩ := hva.opened
  clear hva hT hwa
  by_cases hga : 100 < l.length
  · go_enter Tryd.func3, Tryd.ntmps3
    go_wp2_with fail
    refine (awake15_calls _ HT.out).mono ?_
    rintro e W11 ⟨rfl, hB⟩
    replace HB := Lib.hid (HB.out.trans (hB.mono HB.out.size))
    replace HT := Lib.hid (fun j hj => keep_below hB _ _ (HT.out j hj))
    replace HVA := Lib.hid (HVA.out.below hB)
    clear hB
    go_wp2_with fail
    go_ret
    exact ⟨rfl, HB.out⟩
  by_cases g1 : nn < 0
  · go_enter Tryd.func3, Tryd.ntmps3
    go_wp2_with fail
    refine (awake15_calls _ HT.out).mono ?_
    rintro e W11 ⟨rfl, hB⟩
    replace HB := Lib.hid (HB.out.trans (hB.mono HB.out.size))
    replace HT := Lib.hid (fun j hj => keep_below hB _ _ (HT.out j hj))
    replace HVA := Lib.hid (HVA.out.below hB)
    clear hB
    go_wp2_with fail
    go_ret
    exact ⟨rfl, HB.out⟩
  by_cases g2 : 300 < nn
  · go_enter Tryd.func3, Tryd.ntmps3
    go_wp2_with fail
    refine (awake15_calls _ HT.out).mono ?_
    rintro e W11 ⟨rfl, hB⟩
    replace HB := Lib.hid (HB.out.trans (hB.mono HB.out.size))
    replace HT := Lib.hid (fun j hj => keep_below hB _ _ (HT.out j hj))
    replace HVA := Lib.hid (HVA.out.below hB)
    clear hB
    go_wp2_with fail
    go_ret
    exact ⟨rfl, HB.out⟩
  by_cases g3 : mo < 0
  · go_enter Tryd.func3, Tryd.ntmps3
    go_wp2_with fail
    refine (awake15_calls _ HT.out).mono ?_
    rintro e W11 ⟨rfl, hB⟩
    replace HB := Lib.hid (HB.out.trans (hB.mono HB.out.size))
    replace HT := Lib.hid (fun j hj => keep_below hB _ _ (HT.out j hj))
    replace HVA := Lib.hid (HVA.out.below hB)
    clear hB
    go_wp2_with fail
    go_ret
    exact ⟨rfl, HB.out⟩
  by_cases g4 : 1000 < mo
  · go_enter Tryd.func3, Tryd.ntmps3
    go_wp2_with fail
    refine (awake15_calls _ HT.out).mono ?_
    rintro e W11 ⟨rfl, hB⟩
    replace HB := Lib.hid (HB.out.trans (hB.mono HB.out.size))
    replace HT := Lib.hid (fun j hj => keep_below hB _ _ (HT.out j hj))
    replace HVA := Lib.hid (HVA.out.below hB)
    clear hB
    go_wp2_with fail
    go_ret
    exact ⟨rfl, HB.out⟩
  obtain ⟨n, hn⟩ : ∃ n : Nat, nn = (n : Int) := ⟨nn.toNat, by omega⟩
  obtain ⟨m, hm⟩ : ∃ m : Nat, mo = (m : Int) := ⟨mo.toNat, by omega⟩
  subst hn hm
  have HL := Lib.hid (show l.length ≤ 1048576 by omega)
  have HN2 := Lib.hid (show n ≤ 1048576 by omega)
  have HM := Lib.hid (show m ≤ 1000 by omega)
  have HM2 := Lib.hid (show m ≤ 1048576 by omega)
  have HL2 := Lib.hid (show l.length ≤ 2000000 by omega)
  clear hla
  by_cases hfb : ∀ x ∈ l, Fnt x
  rotate_left
  · have HF : Hid (∃ x ∈ l, ¬ Fnt x) := Lib.hid (by
      apply Classical.byContradiction
      intro hc
      exact hfb fun x hx => Classical.byContradiction fun hn => hc ⟨x, hx, hn⟩)
    clear hfb
    go_enter Tryd.func3, Tryd.ntmps3
    go_wp2_with fail
    refine (rtidys_no _ l _ HVA.out HL2.out HWA.out HF.out).mono ?_
    rintro e W11 ⟨rfl, hB⟩
    replace HB := Lib.hid (HB.out.trans (hB.mono HB.out.size))
    replace HT := Lib.hid (fun j hj => keep_below hB _ _ (HT.out j hj))
    replace HVA := Lib.hid (HVA.out.below hB)
    clear hB
    go_wp2_with fail
    refine (numbers_no _ l _ HVA.out HL.out HWA.out HF.out).mono ?_
    rintro e W12 ⟨rfl, hB⟩
    replace HB := Lib.hid (HB.out.trans (hB.mono HB.out.size))
    replace HT := Lib.hid (fun j hj => keep_below hB _ _ (HT.out j hj))
    replace HVA := Lib.hid (HVA.out.below hB)
    clear hB
    have HBO := Lib.hid HB.out.size
    obtain ⟨W13, hWn⟩ : ∃ xw9, W12.alloc (.cells #[.nilIface] 27) = xw9 := ⟨_, rfl⟩
    have hB : Below W12.heap.size W12 W13 := by rw [← hWn]; exact below_new _ _
    have hNB : At1 W13 W12.heap.size (.nilIface) := by rw [← hWn]; exact At1.new _ _ _
    replace HB := Lib.hid (HB.out.trans (hB.mono HB.out.size))
    replace HT := Lib.hid (fun j hj => keep_below hB _ _ (HT.out j hj))
    replace HVA := Lib.hid (HVA.out.below hB)
    have HA := Lib.hid hNB
    clear hNB hB
    have cHA := HA.out.2.1
    have zHA := HA.out.2.2 0
    go_wp2_with fail
    clear hWn cHA zHA
    obtain ⟨W19, hWn⟩ : ∃ x, W13.setCell ⟨W12.heap.size, 0, none⟩ .nilIface = x := ⟨_, rfl⟩
    have hB9 : Below w.heap.size w W19 := by rw [← hWn]; exact HB.out.setCell (by show w.heap.size ≤ W12.heap.size; exact HBO.out) _
    have hT9 : TabAt W19 := fun j hj => keep_below hB9 _ _ (HT0.out j hj)
    rw [hWn]
    clear hWn HB HT HA HVA
    have HB := Lib.hid hB9
    have HT := Lib.hid hT9
    clear hB9 hT9
    refine (awake15_calls _ HT.out).mono ?_
    rintro e W14 ⟨rfl, hB⟩
    replace HB := Lib.hid (HB.out.trans (hB.mono HB.out.size))
    replace HT := Lib.hid (fun j hj => keep_below hB _ _ (HT.out j hj))
    clear hB
    go_wp2_with fail
    go_ret
    exact ⟨rfl, HB.out⟩
  have HF := Lib.hid hfb
  clear hfb
  obtain ⟨t, ht⟩ : ∃ t, l.map ze = t := ⟨_, rfl⟩
  have HTE := Lib.hid ht
  have HTN := Lib.hid (show ∀ x ∈ t, Num x by rw [← ht]; intro x hx; obtain ⟨y, hy, rfl⟩ := List.mem_map.1 hx; exact ze_num (HF.out y hy))
  have HTQ := Lib.hid (show t.length = l.length by rw [← ht, List.length_map])
  have HTL := Lib.hid (show t.length ≤ 1048576 by rw [HTQ.out]; exact HL.out)
  obtain ⟨E, L, hEL⟩ : ∃ (E : Int) (L : List Int), (∀ x ∈ t, ∃ n, Wh x n) ∧ E = cpEw (t.map wnOf) n m ∧ L = cpLw (t.map wnOf) n m ∨ (¬ ∀ x ∈ t, ∃ n, Wh x n) ∧ E = 24 ∧ L = [] := by
    by_cases h : ∀ x ∈ t, ∃ n, Wh x n
    · exact ⟨_, _, Or.inl ⟨h, rfl, rfl⟩⟩
    · exact ⟨_, _, Or.inr ⟨h, rfl, rfl⟩⟩
  have HEL := Lib.hid hEL
  have HLL := Lib.hid (cp_len [] n m E L t HM.out hEL)
  clear ht hEL
  go_enter Tryd.func3, Tryd.ntmps3
  go_wp2_with fail
  refine (rtidys_yes _ l _ HVA.out HL2.out HF.out).mono ?_
  rintro e W11 ⟨v1, rfl, hv1, hB⟩
  replace HB := Lib.hid (HB.out.trans (hB.mono HB.out.size))
  replace HT := Lib.hid (fun j hj => keep_below hB _ _ (HT.out j hj))
  replace HVA := Lib.hid (HVA.out.below hB)
  rw [HTE.out, ← HTQ.out] at hv1
  have H1 := Lib.hid hv1.any
  obtain ⟨a1, c1, rfl, _⟩ := hv1.opened
  clear hv1
  clear hB
  go_wp2_with fail
  refine (numbers_yes _ l _ HVA.out HL.out HF.out HT.out).mono ?_
  rintro e W12 ⟨u, rfl, hu, hB⟩
  replace HB := Lib.hid (HB.out.trans (hB.mono HB.out.size))
  replace HT := Lib.hid (fun j hj => keep_below hB _ _ (HT.out j hj))
  replace HVA := Lib.hid (HVA.out.below hB)
  replace H1 := Lib.hid (H1.out.below hB)
  rw [HTE.out] at hu
  have HU := Lib.hid (IsV.any hu)
  have hsu := HU.out.store
  clear hu
  clear hB
  obtain ⟨W13, hWn⟩ : ∃ xw9, W12.alloc (.cells #[u] 27) = xw9 := ⟨_, rfl⟩
  have hB : Below W12.heap.size W12 W13 := by rw [← hWn]; exact below_new _ _
  have hNB : At1 W13 W12.heap.size (u) := by rw [← hWn]; exact At1.new _ _ _
  replace HB := Lib.hid (HB.out.trans (hB.mono HB.out.size))
  replace HT := Lib.hid (fun j hj => keep_below hB _ _ (HT.out j hj))
  replace HVA := Lib.hid (HVA.out.below hB)
  replace H1 := Lib.hid (H1.out.below hB)
  replace HU := Lib.hid (HU.out.grow hB)
  have HA := Lib.hid hNB
  clear hNB hB
  have cHA0 := HA.out.2.1
  go_wp2_with fail
  clear hWn
  refine (pcopies_sq _ t n m E L _ HU.out HTL.out HTN.out HN2.out HM2.out HEL.out HT.out).mono ?_
  rintro e W14 ⟨v2, rfl, hv2, hB⟩
  clear cHA0
  replace HB := Lib.hid (HB.out.trans (hB.mono HB.out.size))
  replace HT := Lib.hid (fun j hj => keep_below hB _ _ (HT.out j hj))
  replace HVA := Lib.hid (HVA.out.below hB)
  replace H1 := Lib.hid (H1.out.below hB)
  replace HU := Lib.hid (HU.out.grow hB)
  replace HA := Lib.hid (HA.out.below hB)
  have H2 := Lib.hid hv2
  obtain ⟨a2, c2, rfl, _⟩ := hv2.opened
  clear hv2
  clear hB
  have cHA0 := HA.out.2.1
  go_wp2_with fail
  refine (rcopies_any _ t n m E L _ H1.out HTL.out HTN.out HN2.out HM2.out HEL.out).mono ?_
  rintro e W15 ⟨v3, rfl, hv3, hB⟩
  clear cHA0
  replace HB := Lib.hid (HB.out.trans (hB.mono HB.out.size))
  replace HT := Lib.hid (fun j hj => keep_below hB _ _ (HT.out j hj))
  replace HVA := Lib.hid (HVA.out.below hB)
  replace H1 := Lib.hid (H1.out.below hB)
  replace HU := Lib.hid (HU.out.grow hB)
  replace HA := Lib.hid (HA.out.below hB)
  replace H2 := Lib.hid (H2.out.below hB)
  have H3 := Lib.hid hv3
  obtain ⟨a3, c3, rfl, _⟩ := hv3.opened
  clear hv3
  clear hB
  have cHA0 := HA.out.2.1
  go_wp2_with fail
  refine (vchars_calls _ [] _ (Slc.nil _ (fun _ => True)) (by decide)).mono ?_
  rintro e W16 ⟨uc, rfl, huc, hB⟩
  clear cHA0
  replace HB := Lib.hid (HB.out.trans (hB.mono HB.out.size))
  replace HT := Lib.hid (fun j hj => keep_below hB _ _ (HT.out j hj))
  replace HVA := Lib.hid (HVA.out.below hB)
  replace H1 := Lib.hid (H1.out.below hB)
  replace HU := Lib.hid (HU.out.grow hB)
  replace HA := Lib.hid (HA.out.below hB)
  replace H2 := Lib.hid (H2.out.below hB)
  replace H3 := Lib.hid (H3.out.below hB)
  have HC := Lib.hid (IsV.any huc)
  have hsc := HC.out.store
  clear huc
  clear hB
  have cHA0 := HA.out.2.1
  go_wp2_with fail
  refine (pcopies_chars _ m _ HC.out HM2.out HT.out).mono ?_
  rintro e W17 ⟨v4, rfl, hv4, hB⟩
  clear cHA0
  replace HB := Lib.hid (HB.out.trans (hB.mono HB.out.size))
  replace HT := Lib.hid (fun j hj => keep_below hB _ _ (HT.out j hj))
  replace HVA := Lib.hid (HVA.out.below hB)
  replace H1 := Lib.hid (H1.out.below hB)
  replace HU := Lib.hid (HU.out.grow hB)
  replace HA := Lib.hid (HA.out.below hB)
  replace H2 := Lib.hid (H2.out.below hB)
  replace H3 := Lib.hid (H3.out.below hB)
  replace HC := Lib.hid (HC.out.grow hB)
  obtain ⟨a4, c4, rfl, _⟩ := hv4.opened
  clear hv4
  clear hB
  have cHA0 := HA.out.2.1
  go_wp2_with fail
  refine (ints_eq _ _ L L.length _ H2.out H3.out rfl (by have := HLL.out; omega)).mono ?_
  rintro e W18 ⟨rfl, hB⟩
  clear cHA0
  replace HB := Lib.hid (HB.out.trans (hB.mono HB.out.size))
  replace HT := Lib.hid (fun j hj => keep_below hB _ _ (HT.out j hj))
  replace HVA := Lib.hid (HVA.out.below hB)
  replace H1 := Lib.hid (H1.out.below hB)
  replace HU := Lib.hid (HU.out.grow hB)
  replace HA := Lib.hid (HA.out.below hB)
  replace H2 := Lib.hid (H2.out.below hB)
  replace H3 := Lib.hid (H3.out.below hB)
  replace HC := Lib.hid (HC.out.grow hB)
  clear hB
  have cHA0 := HA.out.2.1
  have hee : (E == E) = true := by simp
  go_wp2_with fail
  refine (awake15_calls _ HT.out).mono ?_
  rintro e W19 ⟨rfl, hB⟩
  clear cHA0
  replace HB := Lib.hid (HB.out.trans (hB.mono HB.out.size))
  replace HT := Lib.hid (fun j hj => keep_below hB _ _ (HT.out j hj))
  replace HVA := Lib.hid (HVA.out.below hB)
  replace H1 := Lib.hid (H1.out.below hB)
  replace HU := Lib.hid (HU.out.grow hB)
  replace HA := Lib.hid (HA.out.below hB)
  replace H2 := Lib.hid (H2.out.below hB)
  replace H3 := Lib.hid (H3.out.below hB)
  replace HC := Lib.hid (HC.out.grow hB)
  clear hB
  have cHA0 := HA.out.2.1
  go_wp2_with fail
  go_ret
  exact ⟨rfl, HB.out⟩

theorem pickCopies_frame (w : World) (va : Value) (la : List Nat) (hra : RowC w va (la.map (Value.float .f64))) (hza : ∀ z ∈ la, (Lit.float .f64 z).wf = true) (hma : la.length ≤ maxLen) (nn : Int) (_ : (Lit.int .i64 nn).wf = true) (mo : Int) (_ : (Lit.int .i64 mo).wf = true) (hT : TabAt w) :
    Calls Tryd.prog 3 #[va, .int .i64 nn, .int .i64 mo] w fun e w' => e = .returned (.bool true) ∧ Below w.heap.size w w' :=
  pickCopies_walk va la nn mo w (by have := hra.slc; rw [List.length_map] at this; exact this) (fun x hx => wf_f64 (hza x hx)) hma hT
end Go.Proofs.YtpcighgflolojaaDoor
