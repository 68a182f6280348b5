/- The reference's shapes, walked: All. -/
import Derived.Test.YtnebondinjjodaaShD
import Derived.Test.YtnebondinjjodaaAp
namespace Go.Proofs.Ytnebondinjjodaa
open Go.RowKit
set_option linter.unusedVariables false
set_option maxRecDepth 8000

/-- One more axis, as the reference lists it. -/
def flatX (l : List (List Int)) (x : Int) : List (List Int) := l.flatMap fun p => (List.range x.toNat).map fun j : Nat => p ++ [(j : Int)]
theorem flatX_cons (p : List Int) (l : List (List Int)) (x : Int) : flatX (p :: l) x = ((List.range x.toNat).map fun j : Nat => p ++ [(j : Int)]) ++ flatX l x := by simp [flatX]
theorem flatX_len (x : Int) : ∀ l : List (List Int), (flatX l x).length = l.length * x.toNat
  | [] => by simp [flatX]
  | p :: l => by rw [flatX_cons, List.length_append, flatX_len x l]; simp [Nat.succ_mul, Nat.add_comm]
theorem flatX_get (x : Int) : ∀ (l : List (List Int)) (k j : Nat) (hk : k < l.length), j < x.toNat → (flatX l x)[k * x.toNat + j]? = some (l[k] ++ [(j : Int)])
  | [], k, j, hk, _ => by simp at hk
  | p :: l, 0, j, hk, hj => by
    rw [flatX_cons, Nat.zero_mul, Nat.zero_add, List.getElem?_append_left (by simpa using hj)]
    simp [List.getElem?_range hj]
  | p :: l, k + 1, j, hk, hj => by
    have := flatX_get x l k j (by simpa using hk) hj
    rw [flatX_cons]
    obtain ⟨X, hX⟩ : ∃ X, x.toNat = X := ⟨_, rfl⟩
    rw [hX] at this ⊢
    have e : (k + 1) * X + j = X + (k * X + j) := by rw [Nat.succ_mul]; omega
    rw [e, List.getElem?_append_right (by simp), List.length_map, List.length_range, Nat.add_sub_cancel_left, this]
    simp
/-- What the reference's All makes, at most so many. -/
def allM (s : List Int) (m : Nat) : List (List Int) := s.foldl (fun l x => (flatX l x).take m) [[]]
theorem allM_nil (m : Nat) : allM [] m = [[]] := rfl
theorem allM_snoc (s : List Int) (x : Int) (m : Nat) : allM (s ++ [x]) m = (flatX (allM s m) x).take m := by simp [allM, List.foldl_append]
theorem allM_take {s : List Int} {k : Nat} {x : Int} (m : Nat) (h : s[k]? = some x) : allM (s.take (k + 1)) m = (flatX (allM (s.take k) m) x).take m := by rw [take_snoc h, allM_snoc]
theorem allM_len (s : List Int) (m : Nat) (hm : 1 ≤ m) : (allM s m).length ≤ m := by
  have : ∀ (s : List Int) (l : List (List Int)), l.length ≤ m → (s.foldl (fun l x => (flatX l x).take m) l).length ≤ m := by
    intro s
    induction s with
    | nil => intro l h; exact h
    | cons x s ih => intro l h; rw [List.foldl_cons]; exact ih _ (by rw [List.length_take]; omega)
  exact this s _ (by simpa using hm)
theorem allM_mem (s : List Int) (m : Nat) : ∀ p ∈ allM s m, p.length = s.length := by
  have : ∀ (s : List Int) (l : List (List Int)) (n : Nat), (∀ p ∈ l, p.length = n) → ∀ p ∈ s.foldl (fun l x => (flatX l x).take m) l, p.length = n + s.length := by
    intro s
    induction s with
    | nil => intro l n h p hp; exact h p hp
    | cons x s ih =>
      intro l n h p hp
      rw [List.foldl_cons] at hp
      have := ih _ (n + 1) (fun q hq => by
        have hq2 := List.mem_of_mem_take hq
        simp only [flatX, List.mem_flatMap, List.mem_map] at hq2
        obtain ⟨r, hr, j, _, rfl⟩ := hq2
        rw [List.length_append, h r hr]; rfl) p hp
      rw [this, List.length_cons]; omega
  intro p hp
  have := this s [[]] 0 (by intro q hq; simp at hq; subst hq; rfl) p hp
  omega
theorem allL_flat (s : List Int) (x : Int) : allL (s ++ [x]) = flatX (allL s) x := allL_snoc s x
theorem allL_len {s : List Int} (hp : Pos s) : (allL s).length = (nzp s).toNat := by rw [allL_eq s hp]; simp
theorem allM_pos (s : List Int) (m : Nat) (hm : 1 ≤ m) (hp : Pos s) (h : nzp s ≤ m) : allM s m = allL s := by
  have key : ∀ k, k ≤ s.length → allM (s.take k) m = allL (s.take k) := by
    intro k
    induction k with
    | zero => intro _; rfl
    | succ k ih =>
      intro hk
      obtain ⟨x, hx⟩ : ∃ x, s[k]? = some x := ⟨_, List.getElem?_eq_getElem (by omega)⟩
      have hp2 : Pos (s.take (k + 1)) := fun y hy => hp y (List.mem_of_mem_take hy)
      rw [allM_take m hx, ih (by omega), ← allL_flat, ← take_snoc hx, List.take_of_length_le]
      rw [allL_len hp2]
      have := nzp_take_le s (k + 1) hk
      omega
  have := key s.length (Nat.le_refl _)
  rwa [List.take_length] at this
theorem foldl_none (m : Nat) (s : List Int) : s.foldl (fun l x => (flatX l x).take m) [] = [] := by
  induction s with
  | nil => rfl
  | cons x s ih => simpa [flatX] using ih
theorem allM_zero (s : List Int) (m : Nat) (h : ∃ x ∈ s, x ≤ 0) : allM s m = [] := by
  have : ∀ (s : List Int) (l : List (List Int)), (∃ x ∈ s, x ≤ 0) → s.foldl (fun l x => (flatX l x).take m) l = [] := by
    intro s
    induction s with
    | nil => intro l h; obtain ⟨x, hx, _⟩ := h; cases hx
    | cons a s ih =>
      intro l h
      rw [List.foldl_cons]
      by_cases ha : a ≤ 0
      · have : flatX l a = [] := List.eq_nil_of_length_eq_zero (by rw [flatX_len, show a.toNat = 0 by omega, Nat.mul_zero])
        rw [this]
        simpa using foldl_none m s
      · obtain ⟨x, hx, h0⟩ := h
        rcases List.mem_cons.1 hx with rfl | hx
        · omega
        · exact ih _ ⟨x, hx, h0⟩
  exact this s _ h
/-- v is a slice of slices: the lists L. -/
def RowsI (w : World) (ok : Nat → Prop) (v : Value) (L : List (List Int)) : Prop :=
  ∃ f : Nat → Value, Slc w ok v L.length ((List.range L.length).map f) ∧ ∀ i (h : i < L.length), Slc w ok (f i) (L[i]).length (ints (L[i]))
theorem RowsI.below {w w' : World} {ok : Nat → Prop} {v : Value} {L : List (List Int)} (h : RowsI w ok v L) (hb : Below w.heap.size w w') : RowsI w' ok v L := by
  obtain ⟨f, h1, h2⟩ := h
  exact ⟨f, h1.below hb, fun i hi => (h2 i hi).below hb⟩
def updI (f : Nat → Value) (k : Nat) (x : Value) : Nat → Value := fun i => if i = k then x else f i
/-- One more row: what the first c were, and the new one, lie apart from the row of rows. -/
theorem rows_step {wr wp w3 : World} {F : List (List Int)} {c base : Nat} {e : TypeId} {f : Nat → Value} {v v' u : Value} {xs : List Value} {p : List Int} (hF : F[c]? = some p)
    (hown : wr.ownsRow base e 1 v c xs) (hEL : ∀ i (h : i < F.length), i < c → Slc wr (fun b => v.ownBlock ≠ some b) (f i) (F[i]).length (ints (F[i])))
    (hB : Below wr.heap.size wr wp) (hu : Slc wp (fun b => wr.heap.size ≤ b) u p.length (ints p))
    (hg : wp.grownBy w3 v.ownBlock) (hblk : ∀ q, v'.ownBlock = some q → v.ownBlock = some q ∨ wp.heap.size ≤ q) :
    ∀ i (h : i < F.length), i < c + 1 → Slc w3 (fun b => v'.ownBlock ≠ some b) (updI f c u i) (F[i]).length (ints (F[i])) := by
  have kk : Kept (fun b => v.ownBlock ≠ some b) wp w3 := fun a x ho hx => hg.cell hx (fun e => ho e.symm)
  have mm : ∀ b, b < wp.heap.size → v.ownBlock ≠ some b → v'.ownBlock ≠ some b := fun b hb hn e => by
    rcases hblk b e with h | h
    · exact hn h
    · omega
  have nn : ∀ b, b < wp.heap.size → wr.heap.size ≤ b → v.ownBlock ≠ some b := fun b _ hb e => by have := (hown.lt b e).2; omega
  intro i hi hik
  by_cases e : i = c
  · subst e
    obtain ⟨_, ep⟩ := List.getElem?_eq_some_iff.1 hF
    simp only [updI, if_true, ep]
    exact (hu.keep (Kept.refl _ _) nn).keep kk mm
  · simp only [updI, if_neg e]
    exact ((hEL i hi (by omega)).below hB).keep kk mm
theorem rows_done {wr : World} {F : List (List Int)} {m c base : Nat} {e : TypeId} {f : Nat → Value} {v : Value} (hc : c = (F.take m).length) (hown : wr.ownsRow base e 1 v c ((List.range c).map f))
    (hEL : ∀ i (h : i < F.length), i < c → Slc wr (fun b => v.ownBlock ≠ some b) (f i) (F[i]).length (ints (F[i]))) : RowsI wr (fun _ => True) v (F.take m) := by
  subst hc
  refine ⟨f, (Slc.owned hown).any, fun i hi => ?_⟩
  have h2 := hi
  rw [List.length_take] at h2
  have := (hEL i (by omega) hi).any
  rw [List.getElem_take]
  exact this
theorem cell_one_newI (w : World) (z : Value) (t : TypeId) : ∀ (j : Nat) (u : Value), ([z] : List Value)[j]? = some u → (w.alloc (.cells #[z] t)).cell? ((⟨w.heap.size, 0, none⟩ : Addr).add j) = some u := by
  intro j u hj
  match j, hj with
  | 0, hj => simp at hj; subst hj; simp [Addr.add]
theorem one_intI (z : Int) : ∀ u ∈ ([.int .i64 z] : List Value), u.oneCell' = true := by intro u hu; simp at hu; subst hu; rfl
theorem info_slI : (Try.prog.info? 22).map (fun i => (i.zero, i.size, i.bytes)) = some (some (.slice none 0 0), 1, 24) := by kernel_rfl
theorem range_snoc (f : Nat → Value) (c : Nat) (u : Value) : (List.range (c + 1)).map (updI f c u) = (List.range c).map f ++ [u] := by
  rw [List.range_succ, List.map_append]
  congr 1
  · apply List.map_congr_left
    intro i hi
    have := List.mem_range.1 hi
    simp only [updI, if_neg (show i ≠ c by omega)]
  · simp [updI]

set_option maxHeartbeats 8000000 in
theorem rall_calls {ok : Nat → Prop} (v : Value) (s : List Int) (m : Nat) (w : World) (hv : Slc w ok v s.length (ints s)) (hl : s.length ≤ 60) (hm : 1 ≤ m ∧ m ≤ 500) :
    Calls Try.prog 12 #[v, .int .i64 (m : Int)] w fun e w' => ∃ v, e = .returned v ∧ RowsI w' (fun _ => True) v (allM s m) ∧ Below w.heap.size w w' := by
  have HV := Lib.hid hv
  have HM := Lib.hid hm
  obtain ⟨ao, cap, rfl, _⟩ := hv.opened
  obtain ⟨i0, hi, hz0, hz1, hz2⟩ := info_parts info_int
  obtain ⟨i1, gi, gz0, gz1, gz2⟩ := info_parts info_slI
  obtain ⟨W0, hW0⟩ : ∃ X, (w.alloc (.cells #[] 3)).alloc (.cells #[.slice (some ⟨w.heap.size, 0, none⟩) 0 0] 22) = X := ⟨_, rfl⟩
  have HB0 := Lib.hid (show Below w.heap.size w W0 by rw [← hW0]; exact (below_newA _ _).alloc (by simp) _)
  have HR0 := Lib.hid (show RowsI W0 (fun _ => True) (.slice (some ⟨w.heap.size + 1, 0, none⟩) 1 1) [[]] by
    rw [← hW0]
    have h1 := World.ownsRow_lit (base := w.heap.size) (e := 22) (size := 1) (w.alloc (.cells #[] 3)) #[.slice (some ⟨w.heap.size, 0, none⟩) 0 0] 1 (by simp) (by unfold maxLen; omega) rfl
    have h2 := (Slc.owned h1).any
    rw [show (w.alloc (.cells #[] 3)).heap.size = w.heap.size + 1 by simp] at h2
    refine ⟨fun _ => .slice (some ⟨w.heap.size, 0, none⟩) 0 0, h2, fun i hi => ?_⟩
    have e : i = 0 := by simpa using hi
    subst e
    exact ⟨⟨rfl, _, _, rfl, fun j hj => absurd hj (by simp [ints])⟩, _, _, rfl, Nat.le_refl _, by unfold maxLen; omega⟩)
  clear hv hm
  go_enter Try.func12, Try.ntmps12
  go_wp2
  clear hW0
  go_loopw [5, 6] (fun l i wr => ∃ k : Nat, k ≤ s.length ∧ i = .int .i64 k ∧ RowsI wr (fun _ => True) l (allM (s.take k) m) ∧ Below w.heap.size w wr) (fun _ i _ => s.length - (intOf i).toNat)
  case atStart => exact ⟨0, by omega, rfl, HR0.out, HB0.out⟩
  case round =>
    obtain ⟨k, hk, rfl, hrow, hB⟩ := hrel
    have HB := Lib.hid hB
    by_cases hlt : k < s.length
    · obtain ⟨bb, off, cap', x, e1, hx, hcx⟩ := slc_at (Value.int .i64) (show Slc w _ (.slice ao s.length cap) s.length (s.map (Value.int .i64)) from HV.out) k hlt
      obtain ⟨e1a, e1b⟩ : ao = some ⟨bb, off, none⟩ ∧ cap = cap' := by cases e1; exact ⟨rfl, rfl⟩
      subst e1a
      have HX := Lib.hid hx
      have HCX := Lib.hid (keep_below hB _ _ hcx)
      obtain ⟨L, hL⟩ : ∃ L, allM (s.take k) m = L := ⟨_, rfl⟩
      rw [hL] at hrow
      have HL := Lib.hid hL
      have HPLs := Lib.hid (show ∀ p ∈ L, p.length ≤ 1000000 by rw [← hL]; exact fun p hp => by have := allM_mem (s.take k) m p hp; rw [List.length_take] at this; omega)
      have HLl := Lib.hid (show L.length ≤ 500 by rw [← hL]; exact Nat.le_trans (allM_len _ _ HM.out.1) HM.out.2)
      have HR := Lib.hid hrow
      obtain ⟨f0, hs0, hf0⟩ := hrow
      have HS0 := Lib.hid hs0
      have HF0 := Lib.hid hf0
      obtain ⟨aoL, capL, rfl, _⟩ := hs0.opened
      obtain ⟨F, hF⟩ : ∃ F, flatX L x = F := ⟨_, rfl⟩
      have HFe := Lib.hid hF
      obtain ⟨X, hX⟩ : ∃ X, x.toNat = X := ⟨_, rfl⟩
      have HXe := Lib.hid hX
      obtain ⟨Wi, rfl⟩ : ∃ Y, Y = wr := ⟨_, rfl⟩
      have HFl := Lib.hid (show F.length = L.length * X by rw [← hF, flatX_len, hX])
      clear hB hx hcx e1 e1b hL hs0 hf0 hF hX
      have hLl := HLl.out
      go_wp2
      go_loopw [7, 8] (fun vn kv wr => ∃ (kk c : Nat) (f : Nat → Value), kk ≤ L.length ∧ kv = .int .i64 kk ∧ c = min (kk * X) m ∧ wr.ownsRow Wi.heap.size 22 1 vn c ((List.range c).map f) ∧ (∀ i (h : i < F.length), i < c → Slc wr (fun b => vn.ownBlock ≠ some b) (f i) (F[i]).length (ints (F[i]))) ∧ Below Wi.heap.size Wi wr) (fun _ kv _ => L.length - (intOf kv).toNat)
      case atStart => exact ⟨0, 0, fun _ => undef, by omega, rfl, by omega, World.ownsRow_nil _ _ _ _, fun i _ h => absurd h (by omega), Below.refl _ _⟩
      case round =>
        obtain ⟨kk, c, f, hkk, rfl, hc, hown, hEL, hBm⟩ := hrel
        obtain ⟨aon, capn, rfl⟩ := owns_form hown
        have HO := Lib.hid hown
        have HEL := Lib.hid hEL
        have HBm := Lib.hid hBm
        have HC := Lib.hid hc
        clear hown hEL hBm hc
        by_cases hkl : kk < L.length
        · by_cases hcm : c < m
          · have hle : kk * X ≤ m ∧ c = kk * X := by have := HC.out; omega
            have HCE := Lib.hid hle.2
            clear hle
            obtain ⟨bL, offL, capL', q, e2, hq, hcq⟩ := slc_at (α := Value) id (s := .slice aoL L.length capL) (l := (List.range L.length).map f0) (by simpa using HS0.out) kk (by simpa using hkl)
            simp only [List.length_map, List.length_range] at e2
            obtain ⟨e2a, e2b⟩ : aoL = some ⟨bL, offL, none⟩ ∧ capL = capL' := by cases e2; exact ⟨rfl, rfl⟩
            subst e2a
            have hfq : q = f0 kk := by
              rw [List.getElem?_map, List.getElem?_range hkl] at hq
              exact (Option.some.inj hq).symm
            obtain ⟨p, hp⟩ : ∃ p, L[kk]'hkl = p := ⟨_, rfl⟩
            have HP := Lib.hid hp
            have HFk := Lib.hid (show Slc Wi (fun _ => True) q p.length (ints p) by have := HF0.out kk hkl; rw [hp, ← hfq] at this; exact this)
            have HCQ := Lib.hid (show Wi.cell? ⟨bL, offL + kk, none⟩ = some q from hcq)
            obtain ⟨aop, capp, rfl, _⟩ := HFk.out.opened
            have HPL := Lib.hid (show p.length ≤ 1000000 from by rw [← hp]; exact HPLs.out _ (List.getElem_mem hkl))
            clear e2 e2b hq hcq hfq hp
            go_wp2
            go_loopw [7, 9] (fun vn jv wr => ∃ (jj c : Nat) (f : Nat → Value), jj ≤ X ∧ jv = .int .i64 jj ∧ c = min (kk * X + jj) m ∧ wr.ownsRow Wi.heap.size 22 1 vn c ((List.range c).map f) ∧ (∀ i (h : i < F.length), i < c → Slc wr (fun b => vn.ownBlock ≠ some b) (f i) (F[i]).length (ints (F[i]))) ∧ Below Wi.heap.size Wi wr) (fun _ jv _ => X - (intOf jv).toNat)
            case atStart => exact ⟨0, c, f, by omega, rfl, by have := HCE.out; omega, HO.out, HEL.out, HBm.out⟩
            case round =>
              obtain ⟨jj, c2, f2, hjj, rfl, hc2, hown, hEL, hBr⟩ := hrel
              obtain ⟨aon2, capn2, rfl⟩ := owns_form hown
              have HO2 := Lib.hid hown
              have HEL2 := Lib.hid hEL
              have HBr := Lib.hid hBr
              have HC2 := Lib.hid hc2
              have hcl := keep_below hBr _ _ HCX.out
              have hcL := keep_below hBr _ _ HCQ.out
              have hcL2 := keep_alloc wr (.cells #[] 3) _ _ hcL
              have hsz := hBr.size
              clear hown hEL hBr hc2
              by_cases hjx : (jj : Int) < x
              · have hjX : jj < X := by have := HXe.out; omega
                by_cases hcm2 : c2 < m
                · have hjm : jj < 500 := by have := HC2.out; have := HM.out; omega
                  have HCE2 := Lib.hid (show c2 = kk * X + jj by have := HC2.out; omega)
                  have HFG := Lib.hid (show F[c2]? = some (p ++ [(jj : Int)]) by rw [HCE2.out, ← HFe.out, ← HXe.out, flatX_get x L kk jj hkl (by rw [HXe.out]; exact hjX), HP.out])
                  have HFkr := Lib.hid (HFk.out.below HBr.out)
                  go_wp2_with (at_builtin; refine wpList_append_came _ rfl _ _ 22 rfl wr.heap.size 3 i0 (.int .i64 0) 8 Try.underlying22 hi hz0 hz1 hz2 rfl wr.heap.size rfl (own_empty _ _ _ (Nat.le_refl _)) aop p.length capp (ints p) rfl ((HFkr.out.below (below_newA _ _)).1) (ints_oneC p) (by have := HPL.out; unfold maxLen; omega) (by have := HPL.out; omega) (by simp) ?_)
                  intro vx W1 hox hgx
                  have HB1 := Lib.hid (show Below wr.heap.size wr W1 from grown_below (below_newA _ _) (own_empty wr 3 wr.heap.size (Nat.le_refl _)) (Nat.le_refl _) (by simp) hgx)
                  obtain ⟨ax, cx, rfl⟩ := owns_form hox
                  have HOX := Lib.hid hox
                  have hsz1 := HB1.out.size
                  clear hox hgx hcL hcL2 hcl
                  go_wp2_with (at_builtin; refine wpList_append_own _ rfl _ _ 22 rfl wr.heap.size 3 i0 (.int .i64 0) 1 8 Try.underlying22 hi hz0 hz1 hz2 rfl (by decide) _ _ _ rfl (HOX.out.alloc _) ⟨W1.heap.size, 0, none⟩ 1 1 [.int .i64 (jj : Int)] rfl rfl (cell_one_newI _ _ _) (one_intI _) (by have := HPL.out; unfold maxLen; omega) (by have := HPL.out; omega) (by simp; omega) ?_)
                  intro vy W2 hoy hgy _
                  have HB2 := Lib.hid (show Below wr.heap.size wr W2 from grown_below (HB1.out.alloc hsz1 _) (HOX.out.alloc _) (Nat.le_refl _) (by simp; omega) hgy)
                  obtain ⟨ay, cy, rfl⟩ := owns_form hoy
                  have HOY := Lib.hid (show Slc W2 (fun b => wr.heap.size ≤ b) (.slice ay (p.length + 1) cy) (p ++ [(jj : Int)]).length (ints (p ++ [(jj : Int)])) by
                    have := Slc.owned hoy
                    rw [show ints p ++ [Value.int .i64 (jj : Int)] = ints (p ++ [(jj : Int)]) by simp [ints]] at this
                    rw [List.length_append]; exact this)
                  have hsz2 := HB2.out.size
                  clear hoy hgy
                  go_wp2_with (at_builtin; refine wpList_append_blk _ rfl _ _ 31 rfl Wi.heap.size 22 i1 (.slice none 0 0) 1 24 Try.underlying31 gi gz0 gz1 gz2 rfl (by decide) (.slice aon2 c2 capn2) c2 ((List.range c2).map f2) rfl ((owns_below HO2.out HB2.out).alloc _) ⟨W2.heap.size, 0, none⟩ 1 1 [.slice ay (p.length + 1) cy] rfl rfl (cell_one_newI _ _ _) (by intro u hu; simp at hu; subst hu; rfl) (by have := HM.out; unfold maxLen; omega) (by have := HM.out; omega) (by have := HBr.out.size; have := HB2.out.size; simp; omega) ?_)
                  intro vn3 W3 hon hgn hblk
                  have hBA : Below wr.heap.size wr (W2.alloc (.cells #[.slice ay (p.length + 1) cy] 22)) := HB2.out.alloc hsz2 _
                  have HE3 := Lib.hid (rows_step HFG.out HO2.out HEL2.out hBA (HOY.out.below (below_newA _ _)) hgn (v' := vn3) (fun q hq => (hblk q hq).imp id (fun h => by rw [World.size_alloc]; exact h)))
                  have HO3 := Lib.hid (show W3.ownsRow Wi.heap.size 22 1 vn3 (c2 + 1) ((List.range (c2 + 1)).map (updI f2 c2 (.slice ay (p.length + 1) cy))) by rw [range_snoc]; exact hon)
                  have HB3 := Lib.hid (show Below Wi.heap.size Wi W3 from (HBr.out.trans (hBA.mono HBr.out.size)).grown hgn (by simp; omega) (fun j hj => (HO2.out.lt j hj).1))
                  clear hon hgn hblk hBA
                  go_wp2
                  go_roundw
                  case rel => exact ⟨jj + 1, c2 + 1, _, by omega, by go_num, by have := HCE2.out; omega, HO3.out, HE3.out, HB3.out⟩
                  case measure => simp [intOf]; omega
                · have HDE := Lib.hid (show c2 = min ((kk + 1) * X) m by have := HC2.out; rw [Nat.succ_mul]; omega)
                  go_wp2
                  go_roundw
                  case rel => exact ⟨kk + 1, c2, f2, by omega, by go_num, HDE.out, HO2.out, HEL2.out, HBr.out⟩
                  case measure => simp [intOf]; omega
              · have h3 : jj = X := by have := HXe.out; omega
                have HDE := Lib.hid (show c2 = min ((kk + 1) * X) m by have := HC2.out; rw [h3] at this; rw [Nat.succ_mul]; exact this)
                clear h3
                go_wp2
                go_roundw
                case rel => exact ⟨kk + 1, c2, f2, by omega, by go_num, HDE.out, HO2.out, HEL2.out, HBr.out⟩
                case measure => simp [intOf]; omega
          · have HDN := Lib.hid (show RowsI wr (fun _ => True) (.slice aon c capn) (F.take m) from rows_done (by have := HC.out; rw [List.length_take, HFl.out]; have h2 : kk * X ≤ L.length * X := Nat.mul_le_mul_right _ (by omega); omega) HO.out HEL.out)
            go_wp2
            go_roundw
            case rel => exact ⟨k + 1, by omega, by go_num, by rw [allM_take m HX.out, HL.out, HFe.out]; exact HDN.out, HB.out.trans (HBm.out.mono HB.out.size)⟩
            case measure => simp [intOf]; omega
        · have hke : kk = L.length := by omega
          have HDN := Lib.hid (show RowsI wr (fun _ => True) (.slice aon c capn) (F.take m) from rows_done (by have := HC.out; rw [List.length_take, HFl.out, this, hke]; omega) HO.out HEL.out)
          clear hke
          go_wp2
          go_roundw
          case rel => exact ⟨k + 1, by omega, by go_num, by rw [allM_take m HX.out, HL.out, HFe.out]; exact HDN.out, HB.out.trans (HBm.out.mono HB.out.size)⟩
          case measure => simp [intOf]; omega
    · have hkl : k = s.length := by omega
      have HR := Lib.hid (show RowsI wr (fun _ => True) u5 (allM s m) by have := hrow; rw [hkl, List.take_length] at this; exact this)
      obtain ⟨f0, hs0, _⟩ := hrow
      obtain ⟨aoL, capL, rfl, _⟩ := hs0.opened
      clear hB hs0 hkl
      go_wp2
      go_ret
      exact ⟨_, rfl, HR.out, HB.out⟩
end Go.Proofs.Ytnebondinjjodaa
