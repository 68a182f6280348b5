/- VecBoxes, walked. -/
import Derived.Test.YtlgaelndboeapaaDoorVeQ
import Derived.Test.YtlgaelndboeapaaDoorAp
import Derived.Deep.RegionHeld3
namespace Go.Proofs.YtlgaelndboeapaaDoor
open Go.RowKit Fl
set_option linter.unusedVariables false
set_option maxRecDepth 100000

/-- v is a slice of slices of characters. -/
def Rows32 (w : World) (v : Value) (L : List (List Int)) : Prop :=
  ∃ f : Nat → Value, Slc w (fun _ => True) v L.length ((List.range L.length).map f) ∧ ∀ i (h : i < L.length), Slc w (fun _ => True) (f i) (L[i]).length (i32s (L[i]))
theorem pairL_snoc (k : Nat) (A B : Nat → Value) (x y : Value) : pairL (k + 1) (upd A k x) (upd B k y) = pairL k A B ++ [x, y] := by
  apply List.ext_getElem?
  intro j
  have hl : (pairL k A B).length = k * 2 := pairL_len _ _ _
  by_cases h1 : j < k * 2
  · rw [List.getElem?_append_left (by omega)]
    have e1 : j < (k + 1) * 2 := by omega
    simp only [pairL, List.getElem?_map, List.getElem?_range e1, List.getElem?_range h1, Option.map_some]
    have : j / 2 ≠ k := by omega
    simp [upd, this]
  · rw [List.getElem?_append_right (by omega), hl]
    by_cases h2 : j = k * 2
    · subst h2
      simp [pairL, upd]
    · by_cases h3 : j = k * 2 + 1
      · subst h3
        have e2 : (k * 2 + 1) % 2 = 1 := by omega
        have e3 : (k * 2 + 1) / 2 = k := by omega
        have e4 : k * 2 + 1 < (k + 1) * 2 := by omega
        have e5 : k * 2 + 1 - k * 2 = 1 := by omega
        simp only [pairL, List.getElem?_map, List.getElem?_range e4, Option.map_some, e2, e3, e5]
        simp [upd]
      · rw [List.getElem?_eq_none (by rw [pairL_len]; omega), List.getElem?_eq_none (by simp; omega)]
theorem field_arr1 (x y : Value) (w : World) : (Instr.field 66 (.agg #[x, y]) 1).run Tryd.prog w = .ok (.agg #[y]) w := by kernel_rfl
theorem field_arr0 (x y : Value) (w : World) : (Instr.field 66 (.agg #[x, y]) 0).run Tryd.prog w = .ok x w := by kernel_rfl
theorem below_drew (w : World) : Below w.heap.size w w.drew := Below.drewN' (Below.refl _ _) 1
theorem cells_pair (w : World) (x y : Value) (t : TypeId) : ∀ (j : Nat) (u : Value), ([x, y] : List Value)[j]? = some u → (w.alloc (.cells #[x, y] t)).cell? ((⟨w.heap.size, 0, none⟩ : Addr).add j) = some u := by
  intro j u h
  match j, h with
  | 0, h => simp at h; subst h; simp [Addr.add]
  | 1, h => simp at h; subst h; simp [Addr.add]
theorem cells_pair2 (w : World) (o : Obj) (x y : Value) (t : TypeId) : ∀ (j : Nat) (u : Value), ([x, y] : List Value)[j]? = some u → ((w.alloc o).alloc (.cells #[x, y] t)).cell? ((⟨w.heap.size + 1, 0, none⟩ : Addr).add j) = some u := by
  have := cells_pair (w.alloc o) x y t
  simpa using this
theorem one_pair {x y : Value} (hx : x.oneCell' = true) (hy : y.oneCell' = true) : ∀ u ∈ [x, y], u.oneCell' = true := by
  intro u hu
  rcases List.mem_cons.1 hu with rfl | hu
  · exact hx
  · rw [List.mem_singleton.1 hu]; exact hy
theorem IsIface.one {u : Value} (h : IsIface u) : u.oneCell' = true := by rcases h with rfl | ⟨t, x, rfl⟩ <;> rfl
theorem size_le2 {w2 : World} {n : Nat} (h : n ≤ w2.heap.size) (o : Obj) : n ≤ (w2.alloc o).heap.size := by simp; omega

/-- One more array: what the first k were, and the new one, lie apart from the row. -/
theorem boxes_step {w wr wp w3 : World} {L : List (List Int)} {k n3 : Nat} {A B : Nat → Value} {v v' sh u : Value} {xs : List Value} {sb : Nat} (hlt : k < L.length)
    (hown : wr.ownsRow w.heap.size 66 2 v k xs) (hAB : ∀ i (h : i < L.length), i < k → Slc wr (fun b => v.ownBlock ≠ some b) (A i) 1 (ints [((L[i]).length : Int)]) ∧ IsV wr (fun b => v.ownBlock ≠ some b) (B i) (.chars (L[i])) ∧ (L[i]).length ≤ 60)
    (hB : Below wr.heap.size wr wp) (hsh : Slc wp (fun b => wr.heap.size ≤ b) sh 1 (ints [((L[k]).length : Int)])) (hu : IsV wp (fun b => wr.heap.size ≤ b) u (.chars (L[k]))) (hl : (L[k]).length ≤ 60)
    (hg : wp.grownBy w3 v.ownBlock) (hblk : ∀ q, v'.ownBlock = some q → v.ownBlock = some q ∨ wp.heap.size ≤ q) :
    ∀ i (h : i < L.length), i < k + 1 → Slc w3 (fun b => v'.ownBlock ≠ some b) (upd A k sh i) 1 (ints [((L[i]).length : Int)]) ∧ IsV w3 (fun b => v'.ownBlock ≠ some b) (upd B k u i) (.chars (L[i])) ∧ (L[i]).length ≤ 60 := by
  have kk : Kept (fun b => v.ownBlock ≠ some b) wp w3 := fun a x ho hx => hg.cell hx (fun e => ho e.symm)
  have mm : ∀ b, b < wp.heap.size → v.ownBlock ≠ some b → v'.ownBlock ≠ some b := fun b hb hn e => by
    rcases hblk b e with h | h
    · exact hn h
    · omega
  have nn : ∀ b, b < wp.heap.size → wr.heap.size ≤ b → v.ownBlock ≠ some b := fun b _ hb e => by have := (hown.lt b e).2; omega
  intro i hi hik
  by_cases e : i = k
  · subst e
    simp only [upd, if_true]
    exact ⟨(hsh.keep (Kept.refl _ _) nn).keep kk mm, (hu.wide nn).keep kk mm, hl⟩
  · obtain ⟨h1, h2, h3⟩ := hAB i hi (by omega)
    simp only [upd, if_neg e]
    exact ⟨(h1.below hB).keep kk mm, (h2.grow hB).keep kk mm, h3⟩
theorem below_step {w wr wp w3 : World} {e : TypeId} {size n : Nat} {v : Value} {xs : List Value} (hB : Below w.heap.size w wr) (hp : Below wr.heap.size wr wp) (hown : wr.ownsRow w.heap.size e size v n xs) (hg : wp.grownBy w3 v.ownBlock) : Below w.heap.size w w3 :=
  (hB.trans (hp.mono hB.size)).grown hg (Nat.le_trans hB.size hp.size) (fun j hj => (hown.lt j hj).1)
theorem slc_one {w : World} {sb : Nat} {x : Value} {ok : Nat → Prop} (h : w.cell? ⟨sb, 0, none⟩ = some x) (ho : ok sb) : Slc w ok (.slice (some ⟨sb, 0, none⟩) 1 1) 1 [x] :=
  ⟨⟨rfl, _, _, rfl, fun i hi => ⟨sb, 0, rfl, ho, by
    have e : i = 0 := by simpa using hi
    subst e
    exact h⟩⟩, _, _, rfl, Nat.le_refl _, by unfold maxLen; omega⟩
def boxesOf (L : List (List Int)) : List (List Int × VV) := L.map fun l => ([(l.length : Int)], VV.chars l)
theorem arrs_own {w wr : World} {L : List (List Int)} {A B : Nat → Value} {v : Value} {ok : Nat → Prop} {n : Nat} (hn : n = L.length) (hown : wr.ownsRow w.heap.size 66 2 v n (pairL n A B))
    (hAB : ∀ i (h : i < L.length), i < n → Slc wr ok (A i) 1 (ints [((L[i]).length : Int)]) ∧ IsV wr ok (B i) (.chars (L[i])) ∧ (L[i]).length ≤ 60) : Arrs wr (fun _ => True) v (boxesOf L) := by
  subst hn
  have hlen : (boxesOf L).length = L.length := by simp [boxesOf]
  rcases hown.2 with ⟨rfl, h0⟩ | ⟨g, cap, cur, rfl, _, hg, hnc, hcm, _, _⟩
  · have : boxesOf L = [] := List.eq_nil_of_length_eq_zero (by omega)
    rw [this]; exact Arrs.nil _ _
  · refine ⟨some ⟨g, 0, none⟩, cap, A, B, by rw [hlen], by rw [hlen]; exact hnc, hcm, fun i hi => ⟨g, 0, rfl, trivial, ?_, ?_⟩, fun i hi => ?_, fun i hi => ?_⟩
    · rw [Nat.zero_add, owns_cell2 hown (i * 2) (by rw [pairL_len]; omega), pairL_fst]
    · rw [Nat.zero_add, owns_cell2 hown (i * 2 + 1) (by rw [pairL_len]; omega), pairL_snd]
    · have := (hAB i (by omega) (by omega)).1.any
      simpa [boxesOf] using this
    · have := (hAB i (by omega) (by omega)).2.1.any
      simpa [boxesOf] using this

set_option maxHeartbeats 8000000 in
theorem vecBoxes_core (w : World) (v : Value) (L : List (List Int)) (f : Nat → Value) (HS : Hid (Slc w (fun _ => True) v L.length ((List.range L.length).map f))) (HF : Hid (∀ i (h : i < L.length), Slc w (fun _ => True) (f i) (L[i]).length (i32s (L[i])))) (i : Int) (HT : Hid (TabAt w)) (hn : L.length ≤ 60) :
    Calls Tryd.prog 6 #[v, .int .i64 i] w fun e w' => e = .returned (.bool true) ∧ Below w.heap.size w w' := by
  obtain ⟨i0, hi, hz0, hz1, hz3⟩ := info_parts info_arr
  obtain ⟨ao, cap, rfl, _⟩ := HS.out.opened
  have hf0 := field_arr0
  have hf1 := field_arr1
  have HM1 : Hid (60 + 1 ≤ maxLen) := Lib.hid (by unfold maxLen; omega)
  go_enter Tryd.func6, Tryd.ntmps6
  go_wp2
  go_loopw [5, 6] (fun v i wr => ∃ (k : Nat) (A B : Nat → Value), k ≤ L.length ∧ i = .int .i64 k ∧ wr.ownsRow w.heap.size 66 2 v k (pairL k A B) ∧ (∀ i (h : i < L.length), i < k → Slc wr (fun b => v.ownBlock ≠ some b) (A i) 1 (ints [((L[i]).length : Int)]) ∧ IsV wr (fun b => v.ownBlock ≠ some b) (B i) (.chars (L[i])) ∧ (L[i]).length ≤ 60) ∧ Below w.heap.size w wr) (fun _ i _ => L.length - (intOf i).toNat)
  case atStart => exact ⟨0, fun _ => undef, fun _ => undef, by omega, rfl, World.ownsRow_nil _ _ _ _, fun i _ h => absurd h (by omega), Below.refl _ _⟩
  case round =>
    obtain ⟨k, A, B, hk, rfl, hown, hAB, hB⟩ := hrel
    have HO := Lib.hid hown
    have HAB := Lib.hid hAB
    have HB := Lib.hid hB
    have hsz := hB.size
    by_cases hlt : k < L.length
    · obtain ⟨bb, off, cap', x, e1, hx, hcx⟩ := Slc.at_map (l := (List.range L.length).map f) (α := Value) id (by simpa using HS.out) k (by simpa using hlt)
      simp only [List.length_map, List.length_range] at e1
      obtain ⟨e1a, e1b⟩ : ao = some ⟨bb, off, none⟩ ∧ cap = cap' := by cases e1; exact ⟨rfl, rfl⟩
      subst e1a
      have hfx : x = f k := by
        rw [List.getElem?_map, List.getElem?_range hlt] at hx
        exact (Option.some.inj hx).symm
      have HFk := Lib.hid (HF.out k hlt)
      rw [← hfx] at HFk
      have hcl := keep_below hB _ _ hcx
      simp only [id] at hcl
      obtain ⟨l, hl⟩ : ∃ l, l = L[k]'hlt := ⟨_, rfl⟩
      rw [← hl] at HFk
      have HLk := Lib.hid hl
      obtain ⟨aor, capr, rfl, _⟩ := HFk.out.opened
      clear hown hAB hB hcx hx e1 e1b hfx hl
      by_cases hlong : 60 < l.length
      · go_wp2_with fail
        refine (awake4_calls _).mono ?_
        rintro e w1 ⟨rfl, hB⟩
        replace HB := Lib.hid (HB.out.trans (hB.mono HB.out.size))
        clear hB
        go_wp2
        go_ret
        exact ⟨rfl, HB.out⟩
      · have hlen : l.length ≤ 60 := by omega
        have HLN := Lib.hid hlen
        have HK1 : Hid (k + 1 ≤ maxLen) := Lib.hid (by unfold maxLen; omega)
        have HK2 : Hid ((k + 1) * 40 ≤ 140737488355328) := Lib.hid (by omega)
        have HSZ := Lib.hid hsz
        have HCH := Lib.hid (show ∀ wx, Below wr.heap.size wr wx → Calls Tryd.prog 22 #[.slice aor l.length capr] wx fun e w' => ∃ u, e = .returned (.agg #[u]) ∧ IsV w' (fun b => wr.heap.size ≤ b) u (.chars l) ∧ Below wx.heap.size wx w' ∧ Below wr.heap.size wr w' from fun wx hx =>
          (vchars_calls _ l wx ((HFk.out.below HB.out).below hx) (by have := HLN.out; omega)).mono fun e w' ⟨u, h1, h2, h3⟩ => ⟨u, h1, h2.wide (fun b _ h => Nat.le_trans hx.size h), h3, hx.trans (h3.mono hx.size)⟩)
        have hcl2 := keep_alloc wr (.cells #[.int .i64 (l.length : Int)] 3) _ _ hcl
        have HCL := Lib.hid hcl
        clear hsz
        go_wp2
        go_region_law ((first
          | (refine step_append_blk rfl _ _ 63 rfl w.heap.size 66 i0 (.agg #[.slice none 0 0, .nilIface]) 2 40 Tryd.underlying63 hi hz0 hz1 hz3 rfl (Nat.succ_pos 1) u5 k (pairL k A B) rfl ((owns_below2 HO.out HB2.out).alloc _) ⟨w2.heap.size, 0, none⟩ 1 1 [.slice (some ⟨wr.heap.size, 0, none⟩) 1 1, u] rfl rfl (cells_pair _ _ _ _) (one_pair rfl HU1.out) HK1.out HK2.out (size_le2 HSZ2.out _) ?_; intro v' w3 hown' hgrow hblk; have HQ1 := Lib.hid hown'; have HQ2 := Lib.hid hgrow; have HQ3 := Lib.hid hblk; clear hown' hgrow hblk)
          | (refine step_append_blk rfl _ _ 63 rfl w.heap.size 66 i0 (.agg #[.slice none 0 0, .nilIface]) 2 40 Tryd.underlying63 hi hz0 hz1 hz3 rfl (Nat.succ_pos 1) u5 k (pairL k A B) rfl (((owns_below2 HO.out HB2.out).alloc _).alloc _) ⟨w2.heap.size + 1, 0, none⟩ 1 1 [.slice (some ⟨w2.heap.size, 0, none⟩) 1 1, u] rfl rfl (cells_pair2 _ _ _ _ _) (one_pair rfl HU1.out) HK1.out HK2.out (size_le2 (size_le2 HSZ2.out _) _) ?_; intro v' w3 hown' hgrow hblk; have HQ1 := Lib.hid hown'; have HQ2 := Lib.hid hgrow; have HQ3 := Lib.hid hblk; clear hown' hgrow hblk)
          | (go_simp; go_at_call 22; refine (HCH.out _ ?_).mono ?_; (first | exact below_drew _ | exact (below_drew _).alloc (Nat.le_refl _) _); rintro e w2 ⟨u, rfl, hu, hBx, hB2⟩; have HBx := Lib.hid hBx; have HU := Lib.hid hu; have HU1 := Lib.hid hu.shape.one; have HB2 := Lib.hid hB2; have HSZ2 := Lib.hid (Nat.le_trans HSZ.out hB2.size); have hcl3 := keep_below hB2 _ _ HCL.out; clear hu hBx hB2; dsimp only)))
        all_goals
          go_wp2
          go_roundw
          case rel =>
            have hlL : (L[k]'hlt).length ≤ 60 := by rw [← HLk.out]; exact HLN.out
            have hlE : ((l.length : Int)) = (((L[k]'hlt).length : Nat) : Int) := by rw [HLk.out]
            refine ⟨k + 1, upd A k _, upd B k u, by omega, by go_num, by rw [pairL_snoc]; exact HQ1.out, ?_, ?_⟩
            · first
              | exact boxes_step (sb := 0) (n3 := 0) hlt HO.out HAB.out (HB2.out.alloc HB2.out.size _) (by rw [← hlE]; exact slc_one (keep_alloc _ _ _ _ (keep_below HBx.out _ _ (by simp))) (Nat.le_refl _)) (by rw [← HLk.out]; exact HU.out.grow (below_new _ _)) hlL HQ2.out HQ3.out
              | exact boxes_step (sb := 0) (n3 := 0) hlt HO.out HAB.out ((HB2.out.alloc HB2.out.size _).alloc (size_le2 HB2.out.size _) _) (by rw [← hlE]; exact slc_one (keep_alloc _ _ _ _ (by simp)) HB2.out.size) (by rw [← HLk.out]; exact HU.out.grow ((below_new _ _).alloc (by simp) _)) hlL HQ2.out HQ3.out
            · first
              | exact below_step HB.out (HB2.out.alloc HB2.out.size _) HO.out HQ2.out
              | exact below_step HB.out ((HB2.out.alloc HB2.out.size _).alloc (size_le2 HB2.out.size _) _) HO.out HQ2.out
          case measure => simp [intOf]; omega
    · have hkn : k = L.length := by omega
      have HARR := Lib.hid (arrs_own hkn hown hAB)
      have H60 := Lib.hid (show ∀ i (h : i < L.length), (L[i]).length ≤ 60 from fun i h => (hAB i h (by omega)).2.2)
      have HBO := Lib.hid (show (boxesOf L).length = L.length by simp [boxesOf])
      have HOK : Hid ((VV.boxes (boxesOf L)).ok) := Lib.hid ⟨by rw [HBO.out]; omega, by intro p hp; simp only [boxesOf, List.mem_map] at hp; obtain ⟨l, _, rfl⟩ := hp; simp⟩
      replace HS := Lib.hid (HS.out.below hB)
      have HF0 := HF
      have HBw0 := Lib.hid hB
      replace HT := Lib.hid (show TabAt wr from fun j hj => keep_below hB _ _ (HT.out j hj))
      have HB := Lib.hid hB
      have hb1 : ((L.length : Int) != (L.length : Int)) = false := by simp
      clear hown hAB hB hkn
      go_wp2_with fail
      refine (vboxes_calls _ (boxesOf L) _ HARR.out HOK.out.1 HOK.out.2).mono ?_
      rintro e W1 ⟨u, rfl, hu, hB⟩
      replace HS := Lib.hid (HS.out.below hB)
      replace HT := Lib.hid (fun j hj => keep_below hB _ _ (HT.out j hj))
      replace HARR := Lib.hid (HARR.out.grow hB)
      replace HB := Lib.hid (HB.out.trans (hB.mono HB.out.size))
      have hst := hu.store
      have HU := Lib.hid hu.any
      clear hu
      clear hB
      obtain ⟨W2, hWn⟩ : ∃ W2, (W1.alloc (.cells #[u] 29)) = W2 := ⟨_, rfl⟩
      have hB : Below W1.heap.size W1 W2 := by rw [← hWn]; exact (below_new _ _)
      replace HS := Lib.hid (HS.out.below hB)
      replace HT := Lib.hid (fun j hj => keep_below hB _ _ (HT.out j hj))
      replace HARR := Lib.hid (HARR.out.grow hB)
      replace HU := Lib.hid (HU.out.grow hB)
      replace HB := Lib.hid (HB.out.trans (hB.mono HB.out.size))
      have HA := Lib.hid (show At1 W2 W1.heap.size (u) by rw [← hWn]; exact At1.new W1 (u) 29)
      clear hB
      have cHA := HA.out.2.1
      go_wp2_with fail
      clear hWn
      refine (kind_calls _ _ _ HU.out).mono ?_
      clear cHA
      rintro e W3 ⟨rfl, hB⟩
      replace HS := Lib.hid (HS.out.below hB)
      replace HT := Lib.hid (fun j hj => keep_below hB _ _ (HT.out j hj))
      replace HARR := Lib.hid (HARR.out.grow hB)
      replace HU := Lib.hid (HU.out.grow hB)
      replace HA := Lib.hid (HA.out.below hB)
      replace HB := Lib.hid (HB.out.trans (hB.mono HB.out.size))
      simp only [VV.kind]
      clear hB
      have cHA := HA.out.2.1
      go_wp2_with fail
      refine (class_calls _ _ _ HU.out).mono ?_
      clear cHA
      rintro e W4 ⟨rfl, hB⟩
      replace HS := Lib.hid (HS.out.below hB)
      replace HT := Lib.hid (fun j hj => keep_below hB _ _ (HT.out j hj))
      replace HARR := Lib.hid (HARR.out.grow hB)
      replace HU := Lib.hid (HU.out.grow hB)
      replace HA := Lib.hid (HA.out.below hB)
      replace HB := Lib.hid (HB.out.trans (hB.mono HB.out.size))
      simp only [VV.cls]
      clear hB
      have cHA := HA.out.2.1
      go_wp2_with fail
      refine (vlen_calls _ _ _ HU.out).mono ?_
      clear cHA
      rintro e W5 ⟨rfl, hB⟩
      replace HS := Lib.hid (HS.out.below hB)
      replace HT := Lib.hid (fun j hj => keep_below hB _ _ (HT.out j hj))
      replace HARR := Lib.hid (HARR.out.grow hB)
      replace HU := Lib.hid (HU.out.grow hB)
      replace HA := Lib.hid (HA.out.below hB)
      replace HB := Lib.hid (HB.out.trans (hB.mono HB.out.size))
      simp only [VV.len]
      rw [HBO.out]
      clear hB
      have cHA := HA.out.2.1
      go_wp2_with fail
      refine (varrays_calls _ _ _ HU.out HOK.out).mono ?_
      clear cHA
      rintro e W6 ⟨v1, rfl, hs, hB⟩
      replace HS := Lib.hid (HS.out.below hB)
      replace HT := Lib.hid (fun j hj => keep_below hB _ _ (HT.out j hj))
      replace HARR := Lib.hid (HARR.out.grow hB)
      replace HU := Lib.hid (HU.out.grow hB)
      replace HA := Lib.hid (HA.out.below hB)
      replace HB := Lib.hid (HB.out.trans (hB.mono HB.out.size))
      obtain ⟨ao1, cap1, _, _, rfl, _⟩ := hs
      simp only [VV.boxs]
      rw [HBO.out]
      clear hB
      have cHA := HA.out.2.1
      go_wp2_with fail
      refine (vnums_calls _ _ _ HU.out HOK.out HT.out).mono ?_
      clear cHA
      rintro e W7 ⟨v2, rfl, hs, hB⟩
      replace HS := Lib.hid (HS.out.below hB)
      replace HT := Lib.hid (fun j hj => keep_below hB _ _ (HT.out j hj))
      replace HARR := Lib.hid (HARR.out.grow hB)
      replace HU := Lib.hid (HU.out.grow hB)
      replace HA := Lib.hid (HA.out.below hB)
      replace HB := Lib.hid (HB.out.trans (hB.mono HB.out.size))
      obtain ⟨ao2, cap2, rfl, _⟩ := hs.opened
      simp only [VV.nums, List.length_nil]
      clear hs
      clear hB
      have cHA := HA.out.2.1
      go_wp2_with fail
      refine (varrays_calls _ _ _ HU.out HOK.out).mono ?_
      clear cHA
      rintro e W8 ⟨v3, rfl, hs, hB⟩
      replace HS := Lib.hid (HS.out.below hB)
      replace HT := Lib.hid (fun j hj => keep_below hB _ _ (HT.out j hj))
      replace HARR := Lib.hid (HARR.out.grow hB)
      replace HU := Lib.hid (HU.out.grow hB)
      replace HA := Lib.hid (HA.out.below hB)
      replace HB := Lib.hid (HB.out.trans (hB.mono HB.out.size))
      simp only [VV.boxs] at hs
      have HBA := Lib.hid hs
      clear hs
      clear hB
      have cHA := HA.out.2.1
      obtain ⟨ao8, cap8, fs, gs, rfl, _, _, hc8, hs8, hv8⟩ := HBA.out
      rw [HBO.out]
      have HC8 := Lib.hid hc8
      have HS8 := Lib.hid hs8
      have HV8 := Lib.hid hv8
      clear hc8 hs8 hv8
      go_wp2
      go_loopw [9] (fun i wr => ∃ k : Nat, k ≤ L.length ∧ i = .int .i64 k ∧ Below W8.heap.size W8 wr) (fun i _ => L.length - (intOf i).toNat)
      case atStart => exact ⟨0, by omega, rfl, Below.refl _ _⟩
      case round =>
        obtain ⟨k, hk, rfl, hBr⟩ := hrel
        have HBr := Lib.hid hBr
        have hcu := (HA.out.below hBr).2.1
        clear hBr cHA
        by_cases hlt : k < L.length
        · obtain ⟨bb, off, cap', x, e1, hx, hcx⟩ := Slc.at_map (l := (List.range L.length).map f) (α := Value) id (by simpa using HS.out) k (by simpa using hlt)
          simp only [List.length_map, List.length_range] at e1
          obtain ⟨e1a, e1b⟩ : ao = some ⟨bb, off, none⟩ ∧ cap = cap' := by cases e1; exact ⟨rfl, rfl⟩
          subst e1a
          have hfx : x = f k := by
            rw [List.getElem?_map, List.getElem?_range hlt] at hx
            exact (Option.some.inj hx).symm
          have HFk := Lib.hid ((HF.out k hlt).below HB.out)
          rw [← hfx] at HFk
          have hcl := keep_below HBr.out _ _ hcx
          simp only [id] at hcl
          obtain ⟨b8, off8, e8, _, d1, d2⟩ := HC8.out k (by rw [HBO.out]; exact hlt)
          subst e8
          have hd1 := keep_below HBr.out _ _ d1
          have hd2 := keep_below HBr.out _ _ d2
          have hB0 : k < (boxesOf L).length := by rw [HBO.out]; exact hlt
          have hbk : (boxesOf L)[k]'hB0 = ([((L[k]'hlt).length : Int)], VV.chars (L[k]'hlt)) := by simp [boxesOf]
          have HSk := Lib.hid (HS8.out k hB0)
          have HVk := Lib.hid (HV8.out k hB0)
          rw [hbk] at HSk HVk
          obtain ⟨l, hl⟩ : ∃ l, l = L[k]'hlt := ⟨_, rfl⟩
          have HAT : Hid (atI (α := List Int × VV) (boxesOf L) ([], .none) (k : Int) = ([(l.length : Int)], VV.chars l)) := Lib.hid (by rw [atI_nat hB0, hbk, hl])
          have HLN := Lib.hid (show l.length ≤ 60 by rw [hl]; exact H60.out k hlt)
          rw [← hl] at HFk HSk HVk
          obtain ⟨aor, capr, rfl, _⟩ := HFk.out.opened
          obtain ⟨ys, hys⟩ : ∃ ys, ys = fs k := ⟨_, rfl⟩
          obtain ⟨yv, hyv⟩ : ∃ yv, yv = gs k := ⟨_, rfl⟩
          rw [← hys] at HSk hd1
          rw [← hyv] at HVk hd2
          obtain ⟨aos, caps, rfl, _⟩ := HSk.out.opened
          have HBOX := Lib.hid (show ∀ wx, Below wr.heap.size wr wx → Calls Tryd.prog 34 #[.agg #[u], .int .i64 (k : Int)] wx fun e w' => ∃ sh y, e = .returned (.agg #[sh, y]) ∧ IsV w' (fun _ => True) y (.chars l) ∧ Below wr.heap.size wr w' from fun wx hx => by
            refine (vbox_calls u _ (k : Int) wx (HU.out.grow (HBr.out.trans (hx.mono HBr.out.size))) HOK.out).mono ?_
            rintro e w' ⟨sh, y, h1, h2, h3⟩
            simp only [VV.boxs] at h2
            rw [HAT.out] at h2
            exact ⟨sh, y, h1, h2.2.any, hx.trans (h3.mono hx.size)⟩)
          have HTXT := Lib.hid (show ∀ wx y, Below wr.heap.size wr wx → IsV wx (fun _ => True) y (.chars l) → Calls Tryd.prog 28 #[.agg #[y]] wx fun e w' => ∃ v, e = .returned v ∧ Slc w' (fun _ => True) v l.length (i32s l) ∧ Below wr.heap.size wr w' from fun wx y hx hy =>
            (vtext_calls y _ wx hy (show l.length ≤ 1048576 by have := HLN.out; omega)).mono fun e w' ⟨v, h1, h2, h3⟩ => ⟨v, h1, h2.any, hx.trans (h3.mono hx.size)⟩)
          have HRUN := Lib.hid (show ∀ wx v, Below wr.heap.size wr wx → Slc wx (fun _ => True) v l.length (i32s l) → Calls Tryd.prog 27 #[v, .slice aor l.length capr] wx fun e w' => e = .returned (.bool true) ∧ Below wr.heap.size wr w' from fun wx v hx hv =>
            (runes_same v _ l wx hv (HFk.out.below (HBr.out.trans (hx.mono HBr.out.size))) (by have := HLN.out; omega)).mono fun e w' ⟨h1, h3⟩ => ⟨h1, hx.trans (h3.mono hx.size)⟩)
          have HDR := Lib.hid (show Below wr.heap.size wr wr.drew from below_drew wr)
          have HYV := Lib.hid (show ∀ wx, Below wr.heap.size wr wx → IsV wx (fun _ => True) yv (.chars l) from fun wx hx => (HVk.out.any).grow (HBr.out.trans (hx.mono HBr.out.size)))
          clear hcx hx e1 e1b hfx d1 d2 hbk hl hys hyv hB0
          go_wp2
          refine wp_region_held_drew (S := (fun w' => w'.cell? ⟨W1.heap.size, 0, none⟩ = some u ∧ w'.cell? ⟨bb, off + k, none⟩ = some (.slice aor l.length capr) ∧ w'.cell? ⟨b8, off8 + k * 2, none⟩ = some (.slice aos 1 caps) ∧ w'.cell? ⟨b8, off8 + k * 2 + 1, none⟩ = some yv)) (by kernel_rfl) ⟨hcu, hcl, hd1, hd2⟩ (fun hHeld => ?_)
          refine wpAnyH_take (i := 0) (v := ?_) rfl (by kernel_rfl) (by kernel_rfl) (by kernel_rfl) (fun _ _ _ h => h) (Or.inl ⟨by rfl, ?_⟩) (by assumption) ?_
          rotate_left
          · (intro w hSw; (try dsimp only at hSw); go_simp; try with_reducible rfl)
          simp only [Act.put, List.getElem_toArray, List.getElem_cons_zero, List.setIfInBounds_toArray, List.set_cons_zero, List.set_cons_succ]
          refine wpAnyH_take (i := 1) (v := ?_) rfl (by kernel_rfl) (by kernel_rfl) (by kernel_rfl) (fun _ _ _ h => h) (Or.inl ⟨by rfl, ?_⟩) (by assumption) ?_
          rotate_left
          · (intro w hSw; (try dsimp only at hSw); go_simp; try with_reducible rfl)
          simp only [Act.put, List.getElem_toArray, List.getElem_cons_succ, List.getElem_cons_zero, List.setIfInBounds_toArray, List.set_cons_zero, List.set_cons_succ]
          refine wpAnyH_take (i := 5) (v := ?_) rfl (by kernel_rfl) (by kernel_rfl) (by kernel_rfl) (fun _ _ _ h => h) (Or.inl ⟨by rfl, ?_⟩) (by assumption) ?_
          rotate_left
          · (intro w hSw; (try dsimp only at hSw); go_simp; try with_reducible rfl)
          simp only [Act.put, List.getElem_toArray, List.getElem_cons_succ, List.getElem_cons_zero, List.setIfInBounds_toArray, List.set_cons_zero, List.set_cons_succ]
          refine wpAnyH_take (i := 6) (v := ?_) rfl (by kernel_rfl) (by kernel_rfl) (by kernel_rfl) (fun _ _ _ h => h) (Or.inl ⟨by rfl, ?_⟩) (by assumption) ?_
          rotate_left
          · (intro w hSw; (try dsimp only at hSw); go_simp; try with_reducible rfl)
          simp only [Act.put, List.getElem_toArray, List.getElem_cons_succ, List.getElem_cons_zero, List.setIfInBounds_toArray, List.set_cons_zero, List.set_cons_succ]
          refine wpAnyH_take (i := 7) (v := ?_) rfl (by kernel_rfl) (by kernel_rfl) (by kernel_rfl) (fun _ _ _ h => h) (Or.inl ⟨by rfl, ?_⟩) (by assumption) ?_
          rotate_left
          · (intro w hSw; (try dsimp only at hSw); go_simp; try with_reducible rfl)
          simp only [Act.put, List.getElem_toArray, List.getElem_cons_succ, List.getElem_cons_zero, List.setIfInBounds_toArray, List.set_cons_zero, List.set_cons_succ]
          refine wpAnyH_take (i := 8) (v := ?_) rfl (by kernel_rfl) (by kernel_rfl) (by kernel_rfl) (fun _ _ _ h => h) (Or.inl ⟨by rfl, ?_⟩) (by assumption) ?_
          rotate_left
          · (intro w hSw; (try dsimp only at hSw); go_simp; try with_reducible rfl)
          simp only [Act.put, List.getElem_toArray, List.getElem_cons_succ, List.getElem_cons_zero, List.setIfInBounds_toArray, List.set_cons_zero, List.set_cons_succ]
          refine wpAnyH_ready (rs := [2]) (by kernel_rfl) (by simp) ?_
          refine AllReadyH.cons (o := _) rfl (fun K hK => ?_) AllReadyH.nil
          go_simp
          refine (HBOX.out _ HDR.out).mono ?_
          rintro e x2 ⟨sh2, y2, rfl, hy, hB⟩
          have HY := Lib.hid hy
          have HX2 := Lib.hid hB
          clear hy hB
          try go_simp
          refine hK.out _ _ ?_ (fun hHeld => ?_)
          · exact ⟨keep_below HX2.out _ _ hcu, keep_below HX2.out _ _ hcl, keep_below HX2.out _ _ hd1, keep_below HX2.out _ _ hd2⟩
          clear hK K
          refine wpAnyH_take (i := 3) (v := ?_) rfl (by kernel_rfl) (by kernel_rfl) (by kernel_rfl) (fun _ _ _ h => h) (Or.inl ⟨by rfl, ?_⟩) (by assumption) ?_
          rotate_left
          · (intro w hSw; (try dsimp only at hSw); go_simp; try with_reducible rfl)
          simp only [Act.put, List.getElem_toArray, List.getElem_cons_succ, List.getElem_cons_zero, List.setIfInBounds_toArray, List.set_cons_zero, List.set_cons_succ]
          refine wpAnyH_ready (rs := [4]) (by kernel_rfl) (by simp) ?_
          refine AllReadyH.cons (o := _) rfl (fun K hK => ?_) AllReadyH.nil
          go_simp
          refine (HTXT.out _ y2 HX2.out HY.out).mono ?_
          rintro e x3 ⟨v9, rfl, hs, hB⟩
          have HS3 := Lib.hid hs
          have HX3 := Lib.hid hB
          clear hs hB
          try go_simp
          refine hK.out _ _ ?_ (fun hHeld => ?_)
          · exact ⟨keep_below HX3.out _ _ hcu, keep_below HX3.out _ _ hcl, keep_below HX3.out _ _ hd1, keep_below HX3.out _ _ hd2⟩
          clear hK K
          refine wpAnyH_ready (rs := [9]) (by kernel_rfl) (by simp) ?_
          refine AllReadyH.cons (o := _) rfl (fun K hK => ?_) AllReadyH.nil
          go_simp
          refine (HRUN.out _ v9 HX3.out HS3.out).mono ?_
          rintro e x4 ⟨rfl, hB⟩
          have HX4 := Lib.hid hB
          clear hB
          try go_simp
          refine hK.out _ _ ?_ (fun hHeld => ?_)
          · exact ⟨keep_below HX4.out _ _ hcu, keep_below HX4.out _ _ hcl, keep_below HX4.out _ _ hd1, keep_below HX4.out _ _ hd2⟩
          clear hK K
          refine wpAnyH_take (i := 10) (v := ?_) rfl (by kernel_rfl) (by kernel_rfl) (by kernel_rfl) (fun _ _ _ h => h) (Or.inl ⟨by rfl, ?_⟩) (by assumption) ?_
          rotate_left
          · (intro w hSw; (try dsimp only at hSw); go_simp; try with_reducible rfl)
          simp only [Act.put, List.getElem_toArray, List.getElem_cons_succ, List.getElem_cons_zero, List.setIfInBounds_toArray, List.set_cons_zero, List.set_cons_succ]
          refine wpAnyH_take (i := 11) (v := ?_) rfl (by kernel_rfl) (by kernel_rfl) (by kernel_rfl) (fun _ _ _ h => h) (Or.inl ⟨by rfl, ?_⟩) (by assumption) ?_
          rotate_left
          · (intro w hSw; (try dsimp only at hSw); go_simp; try with_reducible rfl)
          simp only [Act.put, List.getElem_toArray, List.getElem_cons_succ, List.getElem_cons_zero, List.setIfInBounds_toArray, List.set_cons_zero, List.set_cons_succ]
          refine wpAnyH_take (i := 12) (v := ?_) rfl (by kernel_rfl) (by kernel_rfl) (by kernel_rfl) (fun _ _ _ h => h) (Or.inl ⟨by rfl, ?_⟩) (by assumption) ?_
          rotate_left
          · (intro w hSw; (try dsimp only at hSw); go_simp; try with_reducible rfl)
          simp only [Act.put, List.getElem_toArray, List.getElem_cons_succ, List.getElem_cons_zero, List.setIfInBounds_toArray, List.set_cons_zero, List.set_cons_succ]
          refine wpAnyH_take (i := 13) (v := ?_) rfl (by kernel_rfl) (by kernel_rfl) (by kernel_rfl) (fun _ _ _ h => h) (Or.inl ⟨by rfl, ?_⟩) (by assumption) ?_
          rotate_left
          · (intro w hSw; (try dsimp only at hSw); go_simp; try with_reducible rfl)
          simp only [Act.put, List.getElem_toArray, List.getElem_cons_succ, List.getElem_cons_zero, List.setIfInBounds_toArray, List.set_cons_zero, List.set_cons_succ]
          refine wpAnyH_take (i := 14) (v := ?_) rfl (by kernel_rfl) (by kernel_rfl) (by kernel_rfl) (fun _ _ _ h => h) (Or.inl ⟨by rfl, ?_⟩) (by assumption) ?_
          rotate_left
          · (intro w hSw; (try dsimp only at hSw); go_simp; try with_reducible rfl)
          simp only [Act.put, List.getElem_toArray, List.getElem_cons_succ, List.getElem_cons_zero, List.setIfInBounds_toArray, List.set_cons_zero, List.set_cons_succ]
          refine wpAnyH_take (i := 15) (v := ?_) rfl (by kernel_rfl) (by kernel_rfl) (by kernel_rfl) (fun _ _ _ h => h) (Or.inl ⟨by rfl, ?_⟩) (by assumption) ?_
          rotate_left
          · (intro w hSw; (try dsimp only at hSw); go_simp; try with_reducible rfl)
          simp only [Act.put, List.getElem_toArray, List.getElem_cons_succ, List.getElem_cons_zero, List.setIfInBounds_toArray, List.set_cons_zero, List.set_cons_succ]
          refine wpAnyH_take (i := 16) (v := ?_) rfl (by kernel_rfl) (by kernel_rfl) (by kernel_rfl) (fun _ _ _ h => h) (Or.inl ⟨by rfl, ?_⟩) (by assumption) ?_
          rotate_left
          · (intro w hSw; (try dsimp only at hSw); go_simp; try with_reducible rfl)
          simp only [Act.put, List.getElem_toArray, List.getElem_cons_succ, List.getElem_cons_zero, List.setIfInBounds_toArray, List.set_cons_zero, List.set_cons_succ]
          refine wpAnyH_take (i := 18) (v := ?_) rfl (by kernel_rfl) (by kernel_rfl) (by kernel_rfl) (fun _ _ _ h => h) (Or.inl ⟨by rfl, ?_⟩) (by assumption) ?_
          rotate_left
          · (intro w hSw; (try dsimp only at hSw); go_simp; try with_reducible rfl)
          simp only [Act.put, List.getElem_toArray, List.getElem_cons_succ, List.getElem_cons_zero, List.setIfInBounds_toArray, List.set_cons_zero, List.set_cons_succ]
          refine wpAnyH_take (i := 19) (v := ?_) rfl (by kernel_rfl) (by kernel_rfl) (by kernel_rfl) (fun _ _ _ h => h) (Or.inl ⟨by rfl, ?_⟩) (by assumption) ?_
          rotate_left
          · (intro w hSw; (try dsimp only at hSw); go_simp; try with_reducible rfl)
          simp only [Act.put, List.getElem_toArray, List.getElem_cons_succ, List.getElem_cons_zero, List.setIfInBounds_toArray, List.set_cons_zero, List.set_cons_succ]
          refine wpAnyH_take (i := 20) (v := ?_) rfl (by kernel_rfl) (by kernel_rfl) (by kernel_rfl) (fun _ _ _ h => h) (Or.inl ⟨by rfl, ?_⟩) (by assumption) ?_
          rotate_left
          · (intro w hSw; (try dsimp only at hSw); go_simp; try with_reducible rfl)
          simp only [Act.put, List.getElem_toArray, List.getElem_cons_succ, List.getElem_cons_zero, List.setIfInBounds_toArray, List.set_cons_zero, List.set_cons_succ]
          refine wpAnyH_take (i := 21) (v := ?_) rfl (by kernel_rfl) (by kernel_rfl) (by kernel_rfl) (fun _ _ _ h => h) (Or.inl ⟨by rfl, ?_⟩) (by assumption) ?_
          rotate_left
          · (intro w hSw; (try dsimp only at hSw); go_simp; try with_reducible rfl)
          simp only [Act.put, List.getElem_toArray, List.getElem_cons_succ, List.getElem_cons_zero, List.setIfInBounds_toArray, List.set_cons_zero, List.set_cons_succ]
          refine wpAnyH_ready (rs := [17]) (by kernel_rfl) (by simp) ?_
          refine AllReadyH.cons (o := _) rfl (fun K hK => ?_) AllReadyH.nil
          go_simp
          refine (HTXT.out _ yv HX4.out (HYV.out _ HX4.out)).mono ?_
          rintro e x5 ⟨v10, rfl, hs, hB⟩
          have HS5 := Lib.hid hs
          have HX5 := Lib.hid hB
          clear hs hB
          try go_simp
          refine hK.out _ _ ?_ (fun hHeld => ?_)
          · exact ⟨keep_below HX5.out _ _ hcu, keep_below HX5.out _ _ hcl, keep_below HX5.out _ _ hd1, keep_below HX5.out _ _ hd2⟩
          clear hK K
          refine wpAnyH_ready (rs := [22]) (by kernel_rfl) (by simp) ?_
          refine AllReadyH.cons (o := _) rfl (fun K hK => ?_) AllReadyH.nil
          go_simp
          refine (HRUN.out _ v10 HX5.out HS5.out).mono ?_
          rintro e x6 ⟨rfl, hB⟩
          have HX6 := Lib.hid hB
          clear hB
          try go_simp
          refine hK.out _ _ ?_ (fun hHeld => ?_)
          · exact ⟨keep_below HX6.out _ _ hcu, keep_below HX6.out _ _ hcl, keep_below HX6.out _ _ hd1, keep_below HX6.out _ _ hd2⟩
          clear hK K
          refine wpAnyH_take (i := 23) (v := ?_) rfl (by kernel_rfl) (by kernel_rfl) (by kernel_rfl) (fun _ _ _ h => h) (Or.inl ⟨by rfl, ?_⟩) (by assumption) ?_
          rotate_left
          · (intro w hSw; (try dsimp only at hSw); go_simp; try with_reducible rfl)
          simp only [Act.put, List.getElem_toArray, List.getElem_cons_succ, List.getElem_cons_zero, List.setIfInBounds_toArray, List.set_cons_zero, List.set_cons_succ]
          refine wpAnyH_take (i := 24) (v := ?_) rfl (by kernel_rfl) (by kernel_rfl) (by kernel_rfl) (fun _ _ _ h => h) (Or.inl ⟨by rfl, ?_⟩) (by assumption) ?_
          rotate_left
          · (intro w hSw; (try dsimp only at hSw); go_simp; try with_reducible rfl)
          simp only [Act.put, List.getElem_toArray, List.getElem_cons_succ, List.getElem_cons_zero, List.setIfInBounds_toArray, List.set_cons_zero, List.set_cons_succ]
          refine wpAnyH_take (i := 25) (v := ?_) rfl (by kernel_rfl) (by kernel_rfl) (by kernel_rfl) (fun _ _ _ h => h) (Or.inl ⟨by rfl, ?_⟩) (by assumption) ?_
          rotate_left
          · (intro w hSw; (try dsimp only at hSw); go_simp; try with_reducible rfl)
          simp only [Act.put, List.getElem_toArray, List.getElem_cons_succ, List.getElem_cons_zero, List.setIfInBounds_toArray, List.set_cons_zero, List.set_cons_succ]
          refine wpAnyH_take (i := 26) (v := ?_) rfl (by kernel_rfl) (by kernel_rfl) (by kernel_rfl) (fun _ _ _ h => h) (Or.inl ⟨by rfl, ?_⟩) (by assumption) ?_
          rotate_left
          · (intro w hSw; (try dsimp only at hSw); go_simp; try with_reducible rfl)
          simp only [Act.put, List.getElem_toArray, List.getElem_cons_succ, List.getElem_cons_zero, List.setIfInBounds_toArray, List.set_cons_zero, List.set_cons_succ]
          refine wpAnyH_take (i := 27) (v := ?_) rfl (by kernel_rfl) (by kernel_rfl) (by kernel_rfl) (fun _ _ _ h => h) (Or.inl ⟨by rfl, ?_⟩) (by assumption) ?_
          rotate_left
          · (intro w hSw; (try dsimp only at hSw); go_simp; try with_reducible rfl)
          simp only [Act.put, List.getElem_toArray, List.getElem_cons_succ, List.getElem_cons_zero, List.setIfInBounds_toArray, List.set_cons_zero, List.set_cons_succ]
          refine wpAnyH_take (i := 28) (v := ?_) rfl (by kernel_rfl) (by kernel_rfl) (by kernel_rfl) (fun _ _ _ h => h) (Or.inl ⟨by rfl, ?_⟩) (by assumption) ?_
          rotate_left
          · (intro w hSw; (try dsimp only at hSw); go_simp; try with_reducible rfl)
          simp only [Act.put, List.getElem_toArray, List.getElem_cons_succ, List.getElem_cons_zero, List.setIfInBounds_toArray, List.set_cons_zero, List.set_cons_succ]
          refine wpAnyH_take (i := 29) (v := ?_) rfl (by kernel_rfl) (by kernel_rfl) (by kernel_rfl) (fun _ _ _ h => h) (Or.inl ⟨by rfl, ?_⟩) (by assumption) ?_
          rotate_left
          · (intro w hSw; (try dsimp only at hSw); go_simp; try with_reducible rfl)
          simp only [Act.put, List.getElem_toArray, List.getElem_cons_succ, List.getElem_cons_zero, List.setIfInBounds_toArray, List.set_cons_zero, List.set_cons_succ]
          refine wpAnyH_take (i := 30) (v := ?_) rfl (by kernel_rfl) (by kernel_rfl) (by kernel_rfl) (fun _ _ _ h => h) (Or.inl ⟨by rfl, ?_⟩) (by assumption) ?_
          rotate_left
          · (intro w hSw; (try dsimp only at hSw); go_simp; try with_reducible rfl)
          simp only [Act.put, List.getElem_toArray, List.getElem_cons_succ, List.getElem_cons_zero, List.setIfInBounds_toArray, List.set_cons_zero, List.set_cons_succ]
          refine wpAnyH_take (i := 31) (v := ?_) rfl (by kernel_rfl) (by kernel_rfl) (by kernel_rfl) (fun _ _ _ h => h) (Or.inl ⟨by rfl, ?_⟩) (by assumption) ?_
          rotate_left
          · (intro w hSw; (try dsimp only at hSw); go_simp; try with_reducible rfl)
          simp only [Act.put, List.getElem_toArray, List.getElem_cons_succ, List.getElem_cons_zero, List.setIfInBounds_toArray, List.set_cons_zero, List.set_cons_succ]
          refine wpAnyH_take (i := 32) (v := ?_) rfl (by kernel_rfl) (by kernel_rfl) (by kernel_rfl) (fun _ _ _ h => h) (Or.inl ⟨by rfl, ?_⟩) (by assumption) ?_
          rotate_left
          · (intro w hSw; (try dsimp only at hSw); go_simp; try with_reducible rfl)
          simp only [Act.put, List.getElem_toArray, List.getElem_cons_succ, List.getElem_cons_zero, List.setIfInBounds_toArray, List.set_cons_zero, List.set_cons_succ]
          refine wpAnyH_take (i := 33) (v := ?_) rfl (by kernel_rfl) (by kernel_rfl) (by kernel_rfl) (fun _ _ _ h => h) (Or.inl ⟨by rfl, ?_⟩) (by assumption) ?_
          rotate_left
          · (intro w hSw; (try dsimp only at hSw); go_simp; try with_reducible rfl)
          simp only [Act.put, List.getElem_toArray, List.getElem_cons_succ, List.getElem_cons_zero, List.setIfInBounds_toArray, List.set_cons_zero, List.set_cons_succ]
          refine wpAnyH_done (by kernel_rfl) ?_ _
          go_wp2
          go_roundw
          case rel => exact ⟨k + 1, by omega, by go_num, HBr.out.trans (HX6.out.mono HBr.out.size)⟩
          case measure => simp [intOf]; omega
        · have hkl : k = L.length := by omega
          have HB9 := Lib.hid (HB.out.trans (HBr.out.mono HB.out.size))
          have HU9 := Lib.hid (HU.out.grow HBr.out)
          have HA9 := Lib.hid (HA.out.below HBr.out)
          clear hkl
          by_cases hin : 0 ≤ i ∧ i < (L.length : Int)
          · obtain ⟨h1, h2⟩ := hin
            go_wp2_with fail
            refine (awake4_calls _).mono ?_
            rintro e w2 ⟨rfl, hB⟩
            have HBz := Lib.hid (HB9.out.trans (hB.mono HB9.out.size))
            clear hB
            go_wp2
            go_ret
            exact ⟨rfl, HBz.out⟩
          · have HAT : Hid (atI (α := List Int × VV) (boxesOf L) ([], .none) i = ([], .none)) := Lib.hid (atI_neg (by rw [HBO.out]; exact hin))
            have HBOX := Lib.hid (show ∀ wx, Below wr.heap.size wr wx → Calls Tryd.prog 34 #[.agg #[u], .int .i64 i] wx fun e w' => ∃ ao1 c1 y, e = .returned (.agg #[.slice ao1 0 c1, y]) ∧ IsV w' (fun _ => True) y .none ∧ Below wr.heap.size wr w' from fun wx hx => by
              refine (vbox_calls u _ i wx (HU9.out.grow hx) HOK.out).mono ?_
              rintro e w' ⟨sh, y, h1, h2, h3⟩
              simp only [VV.boxs] at h2
              rw [HAT.out] at h2
              obtain ⟨ao1, c1, rfl, _⟩ := h2.1.opened
              exact ⟨ao1, c1, y, h1, h2.2.any, hx.trans (h3.mono hx.size)⟩)
            have hor : i < 0 ∨ (L.length : Int) ≤ i := by omega
            clear hin
            rcases hor with hor | hor
            · by_cases h0 : 0 ≤ i
              · omega
              · go_wp2_with fail
                refine (HBOX.out _ (Below.refl _ _)).mono ?_
                rintro e w2 ⟨a2, c2, y2, rfl, hy2, hB2⟩
                have c9 := (HA9.out.below hB2).2.1
                have HX2 := Lib.hid hB2
                clear hy2 hB2
                go_wp2_with fail
                refine (HBOX.out _ HX2.out).mono ?_
                rintro e w3 ⟨a3, c3, y3, rfl, hy3, hB3⟩
                have HY3 := Lib.hid hy3
                have HX3 := Lib.hid hB3
                clear hy3 hB3
                go_wp2_with fail
                refine (kind_calls _ _ _ HY3.out).mono ?_
                rintro e w4 ⟨rfl, hB4⟩
                have HX4 := Lib.hid (HX3.out.trans (hB4.mono HX3.out.size))
                clear hB4
                simp only [VV.kind]
                go_wp2_with fail
                refine (awake4_calls _).mono ?_
                rintro e w5 ⟨rfl, hB5⟩
                have HX5 := Lib.hid (HX4.out.trans (hB5.mono HX4.out.size))
                clear hB5
                go_wp2
                go_ret
                exact ⟨rfl, HB9.out.trans (HX5.out.mono HB9.out.size)⟩
            · by_cases h0 : i < 0
              · omega
              · go_wp2_with fail
                refine (HBOX.out _ (Below.refl _ _)).mono ?_
                rintro e w2 ⟨a2, c2, y2, rfl, hy2, hB2⟩
                have c9 := (HA9.out.below hB2).2.1
                have HX2 := Lib.hid hB2
                clear hy2 hB2
                go_wp2_with fail
                refine (HBOX.out _ HX2.out).mono ?_
                rintro e w3 ⟨a3, c3, y3, rfl, hy3, hB3⟩
                have HY3 := Lib.hid hy3
                have HX3 := Lib.hid hB3
                clear hy3 hB3
                go_wp2_with fail
                refine (kind_calls _ _ _ HY3.out).mono ?_
                rintro e w4 ⟨rfl, hB4⟩
                have HX4 := Lib.hid (HX3.out.trans (hB4.mono HX3.out.size))
                clear hB4
                simp only [VV.kind]
                go_wp2_with fail
                refine (awake4_calls _).mono ?_
                rintro e w5 ⟨rfl, hB5⟩
                have HX5 := Lib.hid (HX4.out.trans (hB5.mono HX4.out.size))
                clear hB5
                go_wp2
                go_ret
                exact ⟨rfl, HB9.out.trans (HX5.out.mono HB9.out.size)⟩

theorem choose_rows {w : World} : ∀ xs : List Value, (∀ u ∈ xs, ∃ zs : List Int, RowC w u (zs.map (Value.int .i32)) ∧ (∀ z ∈ zs, (Lit.int .i32 z).wf = true) ∧ zs.length ≤ maxLen) →
    ∃ (L : List (List Int)) (f : Nat → Value), L.length = xs.length ∧ xs = (List.range L.length).map f ∧ ∀ i (h : i < L.length), Slc w (fun _ => True) (f i) (L[i]).length (i32s (L[i]))
  | [], _ => ⟨[], fun _ => undef, rfl, rfl, fun i h => absurd h (by simp)⟩
  | x :: xs, h => by
    obtain ⟨zs, hr, _, _⟩ := h x List.mem_cons_self
    obtain ⟨L, f, h1, h2, h3⟩ := choose_rows xs (fun u hu => h u (List.mem_cons_of_mem _ hu))
    refine ⟨zs :: L, fun i => if i = 0 then x else f (i - 1), by simp [h1], ?_, ?_⟩
    · rw [List.length_cons, List.range_succ_eq_map, List.map_cons, List.map_map]
      rw [h2]
      simp [Function.comp_def]
    · intro i hi
      cases i with
      | zero =>
        have := hr.slc
        rw [List.length_map] at this
        exact this
      | succ j =>
        have := h3 j (by simpa using hi)
        simpa using this
theorem vecBoxes_calls (w : World) (v : Value) (xs : List Value) (hr : RowC w v xs) (hq : ∀ u ∈ xs, ∃ zs : List Int, RowC w u (zs.map (Value.int .i32)) ∧ (∀ z ∈ zs, (Lit.int .i32 z).wf = true) ∧ zs.length ≤ maxLen) (hl : xs.length ≤ maxLen) (i : Int) (hi : (Lit.int .i64 i).wf = true) (hT : TabAt w) :
    Calls Tryd.prog 6 #[v, .int .i64 i] w fun e w' => e = .returned (.bool true) ∧ Below w.heap.size w w' := by
  obtain ⟨L, f, h1, h2, h3⟩ := choose_rows xs hq
  have HS := Lib.hid (show Slc w (fun _ => True) v L.length ((List.range L.length).map f) by have := hr.slc; rw [← h1] at this; rw [h2] at this; exact this)
  by_cases hbig : 60 < L.length
  · obtain ⟨ao1, cap1, rfl, _⟩ := HS.out.opened
    have hmx : L.length ≤ 9223372036854775807 := by unfold maxLen at hl; omega
    clear hr hq h1 h2 h3 hl hi
    go_enter Tryd.func6, Tryd.ntmps6
    go_wp2_with fail
    refine (awake4_calls w).mono ?_
    rintro e w1 ⟨rfl, hB⟩
    have HB := Lib.hid hB
    clear hB
    go_wp2
    go_ret
    exact ⟨rfl, HB.out⟩
  · exact vecBoxes_core w v L f HS (Lib.hid h3) i (Lib.hid hT) (by omega)
end Go.Proofs.YtlgaelndboeapaaDoor
