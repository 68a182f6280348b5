/- Layer 18, walked: sorted: runs that are in order, merged into longer ones. Written by tools/gen_mgs.py. -/
import Derived.Test.YtbdbpamefkgelaaGreatDoorMgR
import Derived.Test.YtbdbpamefkgelaaGreatDoorMgP
import Derived.Test.YtbdbpamefkgelaaGreatDoorWalk2
namespace Go.Proofs.YtbdbpamefkgelaaGreatDoor
set_option maxRecDepth 100000
open Go.RowKit
set_option linter.unusedVariables false

theorem splice_whole {α : Type} (m o : List α) (h : o.length = m.length) : splice m 0 o = o := by
  unfold splice; rw [List.take_zero, List.nil_append, List.drop_eq_nil_of_le (by omega), List.append_nil]
theorem RowP.make (w : World) (n : Nat) : RowP (w.alloc (.cells (zeroI n) 3)) w.heap.size (List.replicate n 0) := by
  unfold RowP
  rw [heap_alloc_new]
  have e : zeroI n = (ints (zL (List.replicate n 0))).toArray := by
    apply Array.ext'
    rw [zeroI, toList_madeCells_one]; simp [ints, zL]
  rw [e]
theorem run_cut {l : List Nat} {n : Nat} (hl : l.length = n) (s r : Nat) : (l.drop (min s n)).take (min (s + r) n - min s n) = (l.drop s).take r := by
  by_cases h : s ≤ n
  · rw [Nat.min_eq_left h, List.take_eq_take_iff, List.length_drop, hl]; omega
  · rw [List.drop_eq_nil_of_le (by omega), List.drop_eq_nil_of_le (by omega), List.take_nil, List.take_nil]
theorem Slc.cutP {w : World} {c n : Nat} {l : List Nat} (h : RowP w c l) (hl : l.length = n) (hm : n ≤ 1048576) {s e : Nat} (hs : s < n) (hse : s ≤ e) (he : e ≤ n) : Slc w (fun b => b = c) (.slice (some ⟨c, s, none⟩) (e - s) (n - s)) (e - s) (ints (zL ((l.drop s).take (e - s)))) := by
  obtain ⟨X, hX⟩ : ∃ X, zL l = X := ⟨_, rfl⟩
  have hXl : X.length = n := by rw [← hX, zL_len]; exact hl
  have h1 := h.slc (by rw [hl]; unfold maxLen; omega)
  rw [hX, hl, hXl] at h1
  have h1' : Slc w (fun b => b = c) (.slice (some ⟨c, 0, none⟩) X.length n) X.length (ints X) := by rw [hXl]; exact h1
  have h2 := h1'.drop s (by omega)
  rw [Nat.zero_add, show X.length - s = (X.drop s).length from (List.length_drop ..).symm] at h2
  have h3 := h2.take (e - s) (by rw [List.length_drop]; omega)
  have e1 : ((X.drop s).take (e - s)).length = e - s := by rw [List.length_take, List.length_drop]; omega
  have e2 : (X.drop s).take (e - s) = zL ((l.drop s).take (e - s)) := by rw [← hX]; unfold zL; rw [List.map_take, List.map_drop]
  rw [e1, e2] at h3
  exact h3
theorem Slc.noneP {w : World} {ok : Nat → Prop} (a : Option Addr) {n : Nat} {l : List Nat} (hn : n = 0) (hl : l = []) : Slc w ok (.slice a n 0) n (ints (zL l)) := by
  subst hn hl
  exact ⟨⟨rfl, _, _, rfl, fun i hi => absurd hi (by simp [ints, zL])⟩, _, _, rfl, Nat.le_refl _, by unfold maxLen; omega⟩
/-- The two runs that go into one. -/
theorem runs_two {n r q : Nat} {ahead : Nat → Nat → Bool} {l : List Nat} (hw : Weak n ahead) (hlt : ∀ x ∈ l, x < n) (h : Rp (stO ahead) r l) : Runs18 n ahead (runL l r (2 * q)) (runL l r (2 * q + 1)) := by
  have mem : ∀ s x, x ∈ runL l r s → x < n := fun s x hx => hlt x (List.mem_of_mem_drop (List.mem_of_mem_take hx))
  exact ⟨hw, mem _, mem _, (h.run _).1, (h.run _).1, fun a ha b hb => run_lt ((h.run _).2 a ha) ((h.run _).2 b hb)⟩
theorem runs_put {n r q : Nat} {ahead : Nat → Nat → Bool} {l m o : List Nat} (hlt : ∀ x ∈ l, x < n) (h : Rp (stO ahead) r l) (hl : l.length = n) (hm : m.length = n) (hq : 2 * r * q < n)
    (hd : Rp (stO ahead) (2 * r) (m.take (2 * r * q))) (hdm : ∀ x ∈ m.take (2 * r * q), x < n) (hp : o.Perm (runL l r (2 * q) ++ runL l r (2 * q + 1))) (ho : o.Pairwise (fun x y => stO ahead x y = true)) :
    (splice m (2 * r * q) o).length = n ∧ (∀ x ∈ (splice m (2 * r * q) o).take (2 * r * (q + 1)), x < n) ∧ Rp (stO ahead) (2 * r) ((splice m (2 * r * q) o).take (2 * r * (q + 1))) := by
  have e1 : r * (2 * q) = 2 * r * q := by rw [Nat.mul_comm 2 r, Nat.mul_assoc]
  have e2 : r * (2 * q + 1) = 2 * r * q + r := by rw [Nat.mul_add, e1, Nat.mul_one]
  have hol : o.length = min (2 * r) (n - 2 * r * q) := by
    rw [hp.length_eq, List.length_append, runL_len, runL_len, hl, e1, e2]; omega
  have e3 : 2 * r * (q + 1) = 2 * r * q + 2 * r := by rw [Nat.mul_add, Nat.mul_one]
  have e4 := splice_take m (2 * r * q) (2 * r) o (by omega) (by rw [hm]; exact hol)
  have mem : ∀ x ∈ o, x / (2 * r) = q ∧ x < n := by
    intro x hx
    rcases List.mem_append.1 (hp.mem_iff.1 hx) with h1 | h1
    · exact ⟨run_two (Or.inl ((h.run _).2 x h1)), hlt x (List.mem_of_mem_drop (List.mem_of_mem_take h1))⟩
    · exact ⟨run_two (Or.inr ((h.run _).2 x h1)), hlt x (List.mem_of_mem_drop (List.mem_of_mem_take h1))⟩
  refine ⟨by rw [splice_len m _ o (by omega)]; exact hm, ?_, ?_⟩
  · rw [e3, e4]
    intro x hx
    rcases List.mem_append.1 hx with h1 | h1
    · exact hdm x h1
    · exact (mem x h1).2
  · rw [e3, e4]
    exact hd.put (by rw [List.length_take]; omega) (fun x hx => (mem x hx).1) ho (by omega)

set_option maxHeartbeats 8000000 in
theorem mgsorted_calls (K : FuncId) (cap : Array Value) {n : Nat} {ahead : Nat → Nat → Bool} (w : World) (hK : ∀ (args : Array Value) (wx : World), (callFunc K args).run Tryz.prog wx = .ok (.enter K args) wx)
    (hA : ∀ (i k : Nat) (wx : World), i < n → k < n → Below w.heap.size w wx → Calls Tryz.prog K (#[.int .i64 (i : Int), .int .i64 (k : Int)] ++ cap) wx fun e w' => e = .returned (.bool (ahead i k)) ∧ Below wx.heap.size wx w')
    (hw : Weak n ahead) (hn : n ≤ 1048576) :
    Calls Tryz.prog 32 #[.int .i64 (n : Int), .func (.func K) #[] cap] w fun e w' => ∃ v l, e = .returned v ∧ IsSo n (stO ahead) l ∧ Slc w' (fun b => w.heap.size ≤ b) v n (ints (zL l)) ∧ Below w.heap.size w w' := by
  have HKF := Lib.hid hK
  have HAH := Lib.hid hA
  have HWK := Lib.hid hw
  have HN := Lib.hid hn
  obtain ⟨g, hg⟩ : ∃ g, w.heap.size = g := ⟨_, rfl⟩
  have HG := Lib.hid hg
  have hmk : ∀ wx, (Instr.makeSlice 24 (.int .i64 (n : Int)) (.int .i64 (n : Int))).run Tryz.prog wx = .ok (.slice (some ⟨wx.heap.size, 0, none⟩) n n) (wx.alloc (.cells (zeroI n) 3)) := run_mkInt n (by omega)
  clear hK hA hw
  go_enter Tryz.func32, Tryz.ntmps32
  go_wp2_with fail
  refine wp_mid (fun s0 s1 w' => ∃ ba br : Nat, s1 = ((((((s0.put (some 12) (.int .i64 (n : Int))).put (some 13) (.slice (some ⟨ba, 0, none⟩) n n)).put (some 14) (.int .i64 (n : Int))).put (some 15) (.slice (some ⟨br, 0, none⟩) n n)).put (some 5) (.slice (some ⟨ba, 0, none⟩) n n)).put (some 6) (.slice (some ⟨br, 0, none⟩) n n)) ∧ ba ≠ br ∧ w.heap.size ≤ ba ∧ w.heap.size ≤ br ∧ RowP w' ba (List.replicate n 0) ∧ RowP w' br (List.replicate n 0) ∧ Below w.heap.size w w') ?_ ?_
  · clear HG
    subst hg
    have hsz : (w.alloc (.cells (zeroI n) 3)).heap.size = w.heap.size + 1 := by simp
    have r0 : RowP ((w.alloc (.cells (zeroI n) 3)).alloc (.cells (zeroI n) 3)) w.heap.size (List.replicate n 0) := (RowP.make w n).below (below_new _ _)
    have r1 : RowP ((w.alloc (.cells (zeroI n) 3)).alloc (.cells (zeroI n) 3)) (w.heap.size + 1) (List.replicate n 0) := by have h9 := RowP.make (w.alloc (.cells (zeroI n) 3)) n; rw [hsz] at h9; exact h9
    have rb : Below w.heap.size w (((w.alloc (.cells (zeroI n) 3)).alloc (.cells (zeroI n) 3)).drew) := ((below_new _ _).alloc (by rw [hsz]; omega) _).drew
    have HR := Lib.hid (And.intro r0 (And.intro r1 rb))
    clear r0 r1 rb
    go_region
    all_goals first
      | exact ⟨rfl, w.heap.size, w.heap.size + 1, rfl, by omega, by omega, by omega, HR.out.1, HR.out.2.1, HR.out.2.2⟩
      | exact ⟨rfl, w.heap.size + 1, w.heap.size, rfl, by omega, by omega, by omega, HR.out.2.1, HR.out.1, HR.out.2.2⟩
  rintro _ W2 ⟨ba, br, rfl, hne, hga, hgr, hra, hrr, hB⟩
  rw [hg] at hga hgr hB
  have HGA := Lib.hid hga
  have HGR := Lib.hid hgr
  have HNE := Lib.hid hne
  have HRA := Lib.hid hra
  have HRR := Lib.hid hrr
  have HB := Lib.hid hB
  simp only [Act.put, List.setIfInBounds_toArray, List.set_cons_zero, List.set_cons_succ]
  clear hne hga hgr hra hrr hB hmk hg
  go_wp2_with fail
  go_loopw [18] (fun iv wr => ∃ k : Nat, k ≤ n ∧ iv = .int .i64 k ∧ RowP wr ba (splice (List.replicate n 0) 0 (List.range k)) ∧ RowP wr br (List.replicate n 0) ∧ Below g w wr) (fun iv _ => n - (intOf iv).toNat)
  case atStart => exact ⟨0, by omega, rfl, by rw [List.range_zero, splice_nil]; exact HRA.out, HRR.out, HB.out⟩
  case round =>
    obtain ⟨k, hk, rfl, hra, hrr, hB⟩ := hrel
    clear HRA HRR HB
    have HRA := Lib.hid hra
    have HRR := Lib.hid hrr
    have HB := Lib.hid hB
    clear hra hrr hB
    by_cases hlt : k < n
    · have hcw := HRA.out.cell (i := k) (x := (splice (List.replicate n 0) 0 (List.range k))[k]'(by rw [splice_len _ _ _ (by simp; omega), List.length_replicate]; exact hlt)) (List.getElem?_eq_getElem _)
      obtain ⟨xx, hxx⟩ : ∃ xx, (splice (List.replicate n 0) 0 (List.range k))[k]'(by rw [splice_len _ _ _ (by simp; omega), List.length_replicate]; exact hlt) = xx := ⟨_, rfl⟩
      rw [hxx] at hcw
      have hfr := HRA.out.free k
      clear hxx
      go_wp2
      go_roundw
      case rel =>
        refine ⟨k + 1, by omega, by go_num, ?_, ?_, HB.out.setCell HGA.out _⟩
        · have h9 := HRA.out.set k k
          rw [show (splice (List.replicate n 0) 0 (List.range k)).set k k = splice (List.replicate n 0) 0 (List.range (k + 1)) by
            have := splice_set (List.replicate n 0) 0 (List.range k) k (by simp; omega)
            rw [List.length_range, Nat.zero_add] at this
            rw [this, List.range_succ]] at h9
          exact h9
        · exact HRR.out.kept (grown_setCell _ ⟨ba, k, none⟩ _) (Ne.symm HNE.out)
      case measure => simp [intOf]; omega
    · have hkn : k = n := by omega
      have HRA2 := Lib.hid (show RowP wr ba (List.range n) by rw [← splice_whole (List.replicate n 0) (List.range n) (by simp), ← hkn]; simpa [hkn] using HRA.out)
      clear HRA hkn
      go_wp2
      go_loopw [8, 5, 6] (fun rv av ov wq => ∃ (r c d : Nat) (l m : List Nat), 0 < r ∧ r ≤ 2097152 ∧ rv = .int .i64 (r : Int) ∧ av = .slice (some ⟨c, 0, none⟩) n n ∧ ov = .slice (some ⟨d, 0, none⟩) n n ∧ c ≠ d ∧ g ≤ c ∧ g ≤ d ∧ l.length = n ∧ m.length = n ∧ (∀ x ∈ l, x < n) ∧ Rp (stO ahead) r l ∧ RowP wq c l ∧ RowP wq d m ∧ Below g w wq) (fun rv _ _ _ => n - (intOf rv).toNat)
      case atStart => exact ⟨1, ba, br, List.range n, List.replicate n 0, by omega, by omega, rfl, rfl, rfl, HNE.out, HGA.out, HGR.out, by simp, by simp, fun x hx => List.mem_range.1 hx, Rp.start _ _, HRA2.out, HRR.out, HB.out⟩
      case round =>
        obtain ⟨r, c, d, l, m, hr0, hr1, rfl, rfl, rfl, hcd, hgc, hgd, hl, hm, hlt, hRp, hrc, hrd, hB⟩ := hrel
        clear HRA2 HRR HB HNE HGA HGR
        have HCD := Lib.hid hcd
        have HGC := Lib.hid hgc
        have HGD := Lib.hid hgd
        have HL := Lib.hid hl
        have HM := Lib.hid hm
        have HLT := Lib.hid hlt
        have HRP := Lib.hid hRp
        have HRC := Lib.hid hrc
        have HRD := Lib.hid hrd
        have HB := Lib.hid hB
        clear hcd hgc hgd hl hm hlt hRp hrc hrd hB
        by_cases hrn : r < n
        · go_wp2
          go_loopw [9] (fun fv wf => ∃ (q F : Nat) (m2 : List Nat), Hid (F = 2 * r * q) ∧ F < n + 2 * r ∧ fv = .int .i64 (F : Int) ∧ m2.length = n ∧ (∀ x ∈ m2.take F, x < n) ∧ Rp (stO ahead) (2 * r) (m2.take F) ∧ RowP wf d m2 ∧ wr.grownBy wf (some d)) (fun fv _ => n + 2 * r - (intOf fv).toNat)
          case atStart => exact ⟨0, 0, m, Lib.hid (by omega), by omega, rfl, HM.out, fun x hx => by simp at hx, by rw [List.take_zero]; exact Rp.nil _ _, HRD.out, grown_refl _ _⟩
          case round =>
            obtain ⟨q, F, m2, hF, hF2, rfl, hm2, hmem, hRp2, hrd2, hgr⟩ := hrel
            clear HRD
            have HFE := hF
            have HM2 := Lib.hid hm2
            have HMEM := Lib.hid hmem
            have HRP2 := Lib.hid hRp2
            have HRD2 := Lib.hid hrd2
            have HGW := Lib.hid hgr
            clear hF hm2 hmem hRp2 hrd2 hgr
            by_cases hFn : F < n
            · --A MERGE
              obtain ⟨P, hP⟩ : ∃ P, F + r = P := ⟨_, rfl⟩
              obtain ⟨Q, hQ⟩ : ∃ Q, F + 2 * r = Q := ⟨_, rfl⟩
              have hPi : (F : Int) + (r : Int) = (P : Int) := by omega
              have hQi : (F : Int) + 2 * (r : Int) = (Q : Int) := by omega
              have hPw : IntKind.i64.wrap (P : Int) = P := IntWalk.i64_in _ (by omega)
              have hQw : IntKind.i64.wrap (Q : Int) = Q := IntWalk.i64_in _ (by omega)
              have hFP : F ≤ P := by omega
              have hFQ : F ≤ Q := by omega
              have hPQ : P ≤ Q := by omega
              have hFn' : F ≤ n := by omega
              have hnF : ¬ (n = F) := by omega
              have HQE := Lib.hid (show Q = 2 * r * (q + 1) by rw [Nat.mul_add, Nat.mul_one, ← HFE.out]; omega)
              have HCALL := Lib.hid (show ∀ (M E : Nat) (wx : World) (vs : Value), min P n = M → min Q n = E → Below wr.heap.size wr wx → Slc wx (fun b => b ≠ d) vs (E - M) (ints (zL ((l.drop M).take (E - M)))) → Calls Tryz.prog 65 #[.slice (some ⟨d, F, none⟩) (E - F) (n - F), .slice (some ⟨c, F, none⟩) (M - F) (n - F), vs, .func (.func K) #[] cap] wx (fun e w' => e = .returned (.tuple #[]) ∧ ∃ m3, m3.length = n ∧ (∀ x ∈ m3.take Q, x < n) ∧ Rp (stO ahead) (2 * r) (m3.take Q) ∧ RowP w' d m3 ∧ wx.grownBy w' (some d)) from by
                intro M E wx vs hM hE hB hS
                have hrcx : RowP wx c l := (HRC.out.kept HGW.out HCD.out).below hB
                have hF9 := Slc.cutP hrcx HL.out (by omega) hFn (show F ≤ M by omega) (show M ≤ n by omega)
                have e0 : r * (2 * q) = F := by rw [HFE.out, Nat.mul_comm 2 r, Nat.mul_assoc]
                have e1 : (l.drop F).take (M - F) = runL l r (2 * q) := by
                  have := run_cut HL.out F r
                  rw [Nat.min_eq_left hFn', hP, hM] at this
                  rw [this, ← e0]; rfl
                have e2 : (l.drop M).take (E - M) = runL l r (2 * q + 1) := by
                  have := run_cut HL.out P r
                  rw [hM, show P + r = Q by omega, hE] at this
                  rw [this]
                  unfold runL
                  rw [Nat.mul_add, e0, Nat.mul_one, hP]
                rw [e1] at hF9
                rw [e2] at hS
                have hW1 : Below g w wx := (HB.out.grown HGW.out (by rw [← HG.out]; exact HB.out.size) (fun k hk => by cases hk; exact HGD.out)).trans (hB.mono (by have := HB.out.size; have := HGW.out.size; rw [← HG.out]; omega))
                have h := mginto_calls K cap (n := n) (g := g) (ahead := ahead) w HKF.out (by rw [← HG.out]; exact HAH.out) d F (M - F) (E - M) (n - F) m2 _ _ _ vs wx hW1 (by rw [← HG.out]; exact hW1.size) HGD.out (HRD2.out.below hB) (by rw [HM2.out]; omega) (by rw [HM2.out]; omega) (by omega) (by omega) (by omega) (hF9.keep (Kept.refl _ _) (fun b _ e => by subst e; exact HCD.out)) hS (runs_two HWK.out HLT.out HRP.out)
                rw [show M - F + (E - M) = E - F by omega] at h
                refine h.mono ?_
                rintro e w' ⟨rfl, o, hp, ho, hrow, hgr⟩
                have hr9 := HRP2.out
                have hm9 := HMEM.out
                rw [HFE.out] at hr9 hm9
                obtain ⟨x1, x2, x3⟩ := runs_put HLT.out HRP.out HL.out HM2.out (by rw [← HFE.out]; exact hFn) hr9 hm9 hp ho
                rw [← HFE.out, ← HQE.out] at x2 x3
                rw [← HFE.out] at x1
                exact ⟨rfl, _, x1, x2, x3, hrow, hgr⟩)
              by_cases hcQ : Q ≤ n
              · --CASE both whole
                have hnP : ¬ (n = P) := by omega
                have hPn : P ≤ n := by omega
                go_wp2_with fail
                obtain ⟨W11, hWD⟩ : ∃ xw9, wr.drew = xw9 := ⟨_, rfl⟩
                have hB9 : Below wr.heap.size wr W11 := by rw [← hWD]; exact Below.drewN' (Below.refl _ _) 1
                refine wp_region_held_drew (S := fun _ => True) (by kernel_rfl) trivial (fun hHeld => ?_)
                rw [hWD]
                clear hWD
                refine wpAnyH_take (i := 0) (v := ?_) rfl (by kernel_rfl) (by kernel_rfl) (by kernel_rfl) (fun _ _ _ h => h) (Or.inl ⟨by rfl, ?_⟩) (by assumption) ?_
                rotate_left
                · (intro w hSw; (try dsimp only at hSw); go_simp; try with_reducible rfl)
                simp only [Act.put, List.getElem_toArray, List.getElem_cons_zero, List.setIfInBounds_toArray, List.set_cons_zero, List.set_cons_succ]
                refine wpAnyH_take (i := 1) (v := ?_) rfl (by kernel_rfl) (by kernel_rfl) (by kernel_rfl) (fun _ _ _ h => h) (Or.inl ⟨by rfl, ?_⟩) (by assumption) ?_
                rotate_left
                · (intro w hSw; (try dsimp only at hSw); go_simp; try with_reducible rfl)
                simp only [Act.put, List.getElem_toArray, List.getElem_cons_succ, List.getElem_cons_zero, List.setIfInBounds_toArray, List.set_cons_zero, List.set_cons_succ]
                refine wpAnyH_take (i := 2) (v := ?_) rfl (by kernel_rfl) (by kernel_rfl) (by kernel_rfl) (fun _ _ _ h => h) (Or.inl ⟨by rfl, ?_⟩) (by assumption) ?_
                rotate_left
                · (intro w hSw; (try dsimp only at hSw); go_simp; try with_reducible rfl)
                simp only [Act.put, List.getElem_toArray, List.getElem_cons_succ, List.getElem_cons_zero, List.setIfInBounds_toArray, List.set_cons_zero, List.set_cons_succ]
                refine wpAnyH_take (i := 3) (v := ?_) rfl (by kernel_rfl) (by kernel_rfl) (by kernel_rfl) (fun _ _ _ h => h) (Or.inl ⟨by rfl, ?_⟩) (by assumption) ?_
                rotate_left
                · (intro w hSw; (try dsimp only at hSw); go_simp; try with_reducible rfl)
                simp only [Act.put, List.getElem_toArray, List.getElem_cons_succ, List.getElem_cons_zero, List.setIfInBounds_toArray, List.set_cons_zero, List.set_cons_succ]
                refine wpAnyH_take (i := 4) (v := ?_) rfl (by kernel_rfl) (by kernel_rfl) (by kernel_rfl) (fun _ _ _ h => h) (Or.inl ⟨by rfl, ?_⟩) (by assumption) ?_
                rotate_left
                · (intro w hSw; (try dsimp only at hSw); go_simp; try with_reducible rfl)
                simp only [Act.put, List.getElem_toArray, List.getElem_cons_succ, List.getElem_cons_zero, List.setIfInBounds_toArray, List.set_cons_zero, List.set_cons_succ]
                refine wpAnyH_take (i := 5) (v := ?_) rfl (by kernel_rfl) (by kernel_rfl) (by kernel_rfl) (fun _ _ _ h => h) (Or.inl ⟨by rfl, ?_⟩) (by assumption) ?_
                rotate_left
                · (intro w hSw; (try dsimp only at hSw); go_simp; try with_reducible rfl)
                simp only [Act.put, List.getElem_toArray, List.getElem_cons_succ, List.getElem_cons_zero, List.setIfInBounds_toArray, List.set_cons_zero, List.set_cons_succ]
                refine wpAnyH_take (i := 6) (v := ?_) rfl (by kernel_rfl) (by kernel_rfl) (by kernel_rfl) (fun _ _ _ h => h) (Or.inl ⟨by rfl, ?_⟩) (by assumption) ?_
                rotate_left
                · (intro w hSw; (try dsimp only at hSw); go_simp; try with_reducible rfl)
                simp only [Act.put, List.getElem_toArray, List.getElem_cons_succ, List.getElem_cons_zero, List.setIfInBounds_toArray, List.set_cons_zero, List.set_cons_succ]
                refine wpAnyH_take (i := 7) (v := ?_) rfl (by kernel_rfl) (by kernel_rfl) (by kernel_rfl) (fun _ _ _ h => h) (Or.inl ⟨by rfl, ?_⟩) (by assumption) ?_
                rotate_left
                · (intro w hSw; (try dsimp only at hSw); go_simp; try with_reducible rfl)
                simp only [Act.put, List.getElem_toArray, List.getElem_cons_succ, List.getElem_cons_zero, List.setIfInBounds_toArray, List.set_cons_zero, List.set_cons_succ]
                refine wpAnyH_take (i := 8) (v := ?_) rfl (by kernel_rfl) (by kernel_rfl) (by kernel_rfl) (fun _ _ _ h => h) (Or.inl ⟨by rfl, ?_⟩) (by assumption) ?_
                rotate_left
                · (intro w hSw; (try dsimp only at hSw); go_simp; try with_reducible rfl)
                simp only [Act.put, List.getElem_toArray, List.getElem_cons_succ, List.getElem_cons_zero, List.setIfInBounds_toArray, List.set_cons_zero, List.set_cons_succ]
                refine wpAnyH_take (i := 9) (v := ?_) rfl (by kernel_rfl) (by kernel_rfl) (by kernel_rfl) (fun _ _ _ h => h) (Or.inl ⟨by rfl, ?_⟩) (by assumption) ?_
                rotate_left
                · (intro w hSw; (try dsimp only at hSw); go_simp; try with_reducible rfl)
                simp only [Act.put, List.getElem_toArray, List.getElem_cons_succ, List.getElem_cons_zero, List.setIfInBounds_toArray, List.set_cons_zero, List.set_cons_succ]
                refine wpAnyH_take (i := 10) (v := ?_) rfl (by kernel_rfl) (by kernel_rfl) (by kernel_rfl) (fun _ _ _ h => h) (Or.inl ⟨by rfl, ?_⟩) (by assumption) ?_
                rotate_left
                · (intro w hSw; (try dsimp only at hSw); go_simp; try with_reducible rfl)
                simp only [Act.put, List.getElem_toArray, List.getElem_cons_succ, List.getElem_cons_zero, List.setIfInBounds_toArray, List.set_cons_zero, List.set_cons_succ]
                refine wpAnyH_take (i := 11) (v := ?_) rfl (by kernel_rfl) (by kernel_rfl) (by kernel_rfl) (fun _ _ _ h => h) (Or.inl ⟨by rfl, ?_⟩) (by assumption) ?_
                rotate_left
                · (intro w hSw; (try dsimp only at hSw); go_simp; try with_reducible rfl)
                simp only [Act.put, List.getElem_toArray, List.getElem_cons_succ, List.getElem_cons_zero, List.setIfInBounds_toArray, List.set_cons_zero, List.set_cons_succ]
                refine wpAnyH_take (i := 12) (v := ?_) rfl (by kernel_rfl) (by kernel_rfl) (by kernel_rfl) (fun _ _ _ h => h) (Or.inl ⟨by rfl, ?_⟩) (by assumption) ?_
                rotate_left
                · (intro w hSw; (try dsimp only at hSw); go_simp; try with_reducible rfl)
                simp only [Act.put, List.getElem_toArray, List.getElem_cons_succ, List.getElem_cons_zero, List.setIfInBounds_toArray, List.set_cons_zero, List.set_cons_succ]
                refine wpAnyH_ready (rs := [13]) (by kernel_rfl) (by simp) ?_
                refine AllReadyH.cons (o := _) rfl (fun K' hK' => ?_) AllReadyH.nil
                clear hHeld
                go_simp
                refine (HCALL.out P Q W11 _ (by omega) (by omega) hB9 ((Slc.cutP (((HRC.out.kept HGW.out HCD.out)).below hB9) HL.out (by omega) (by omega) (by omega) (by omega) (s := P) (e := Q)).keep (Kept.refl _ _) (fun b _ e => by subst e; exact HCD.out))).mono ?_
                rintro e W12 ⟨rfl, m3, x1, x2, x3, x4, x5⟩
                have HX1 := Lib.hid x1
                have HX2 := Lib.hid x2
                have HX3 := Lib.hid x3
                have HX4 := Lib.hid x4
                have HX5 := Lib.hid (grown_trans HGW.out (grown_trans (grown_any (below_grown hB9) _) x5))
                clear x1 x2 x3 x4 x5 hB9
                refine hK'.out _ _ trivial (fun hHeld => ?_)
                clear hK' K'
                refine wpAnyH_done (by kernel_rfl) ?_ _
                clear hHeld
                go_wp2
                go_roundw
                case rel => exact ⟨q + 1, Q, m3, HQE, by omega, by go_num, HX1.out, HX2.out, HX3.out, HX4.out, HX5.out⟩
                case measure => simp [intOf]; omega
              · by_cases hcP : P < n
                · --CASE the second cut
                  have hnP : ¬ (n = P) := by omega
                  have hPn : P ≤ n := by omega
                  have hnQ : min (Q : Int) (n : Int) = (n : Int) := by omega
                  go_wp2_with fail
                  obtain ⟨W11, hWD⟩ : ∃ xw9, wr.drew = xw9 := ⟨_, rfl⟩
                  have hB9 : Below wr.heap.size wr W11 := by rw [← hWD]; exact Below.drewN' (Below.refl _ _) 1
                  refine wp_region_held_drew (S := fun _ => True) (by kernel_rfl) trivial (fun hHeld => ?_)
                  rw [hWD]
                  clear hWD
                  refine wpAnyH_take (i := 0) (v := ?_) rfl (by kernel_rfl) (by kernel_rfl) (by kernel_rfl) (fun _ _ _ h => h) (Or.inl ⟨by rfl, ?_⟩) (by assumption) ?_
                  rotate_left
                  · (intro w hSw; (try dsimp only at hSw); go_simp; try with_reducible rfl)
                  simp only [Act.put, List.getElem_toArray, List.getElem_cons_zero, List.setIfInBounds_toArray, List.set_cons_zero, List.set_cons_succ]
                  refine wpAnyH_take (i := 1) (v := ?_) rfl (by kernel_rfl) (by kernel_rfl) (by kernel_rfl) (fun _ _ _ h => h) (Or.inl ⟨by rfl, ?_⟩) (by assumption) ?_
                  rotate_left
                  · (intro w hSw; (try dsimp only at hSw); go_simp; try with_reducible rfl)
                  simp only [Act.put, List.getElem_toArray, List.getElem_cons_succ, List.getElem_cons_zero, List.setIfInBounds_toArray, List.set_cons_zero, List.set_cons_succ]
                  refine wpAnyH_take (i := 2) (v := ?_) rfl (by kernel_rfl) (by kernel_rfl) (by kernel_rfl) (fun _ _ _ h => h) (Or.inl ⟨by rfl, ?_⟩) (by assumption) ?_
                  rotate_left
                  · (intro w hSw; (try dsimp only at hSw); go_simp; try with_reducible rfl)
                  simp only [Act.put, List.getElem_toArray, List.getElem_cons_succ, List.getElem_cons_zero, List.setIfInBounds_toArray, List.set_cons_zero, List.set_cons_succ]
                  refine wpAnyH_take (i := 3) (v := ?_) rfl (by kernel_rfl) (by kernel_rfl) (by kernel_rfl) (fun _ _ _ h => h) (Or.inl ⟨by rfl, ?_⟩) (by assumption) ?_
                  rotate_left
                  · (intro w hSw; (try dsimp only at hSw); go_simp; try with_reducible rfl)
                  simp only [Act.put, List.getElem_toArray, List.getElem_cons_succ, List.getElem_cons_zero, List.setIfInBounds_toArray, List.set_cons_zero, List.set_cons_succ]
                  refine wpAnyH_take (i := 4) (v := ?_) rfl (by kernel_rfl) (by kernel_rfl) (by kernel_rfl) (fun _ _ _ h => h) (Or.inl ⟨by rfl, ?_⟩) (by assumption) ?_
                  rotate_left
                  · (intro w hSw; (try dsimp only at hSw); go_simp; try with_reducible rfl)
                  simp only [Act.put, List.getElem_toArray, List.getElem_cons_succ, List.getElem_cons_zero, List.setIfInBounds_toArray, List.set_cons_zero, List.set_cons_succ]
                  refine wpAnyH_take (i := 5) (v := ?_) rfl (by kernel_rfl) (by kernel_rfl) (by kernel_rfl) (fun _ _ _ h => h) (Or.inl ⟨by rfl, ?_⟩) (by assumption) ?_
                  rotate_left
                  · (intro w hSw; (try dsimp only at hSw); go_simp; try with_reducible rfl)
                  simp only [Act.put, List.getElem_toArray, List.getElem_cons_succ, List.getElem_cons_zero, List.setIfInBounds_toArray, List.set_cons_zero, List.set_cons_succ]
                  refine wpAnyH_take (i := 6) (v := ?_) rfl (by kernel_rfl) (by kernel_rfl) (by kernel_rfl) (fun _ _ _ h => h) (Or.inl ⟨by rfl, ?_⟩) (by assumption) ?_
                  rotate_left
                  · (intro w hSw; (try dsimp only at hSw); go_simp; try with_reducible rfl)
                  simp only [Act.put, List.getElem_toArray, List.getElem_cons_succ, List.getElem_cons_zero, List.setIfInBounds_toArray, List.set_cons_zero, List.set_cons_succ]
                  refine wpAnyH_take (i := 7) (v := ?_) rfl (by kernel_rfl) (by kernel_rfl) (by kernel_rfl) (fun _ _ _ h => h) (Or.inl ⟨by rfl, ?_⟩) (by assumption) ?_
                  rotate_left
                  · (intro w hSw; (try dsimp only at hSw); go_simp; try with_reducible rfl)
                  simp only [Act.put, List.getElem_toArray, List.getElem_cons_succ, List.getElem_cons_zero, List.setIfInBounds_toArray, List.set_cons_zero, List.set_cons_succ]
                  refine wpAnyH_take (i := 8) (v := ?_) rfl (by kernel_rfl) (by kernel_rfl) (by kernel_rfl) (fun _ _ _ h => h) (Or.inl ⟨by rfl, ?_⟩) (by assumption) ?_
                  rotate_left
                  · (intro w hSw; (try dsimp only at hSw); go_simp; try with_reducible rfl)
                  simp only [Act.put, List.getElem_toArray, List.getElem_cons_succ, List.getElem_cons_zero, List.setIfInBounds_toArray, List.set_cons_zero, List.set_cons_succ]
                  refine wpAnyH_take (i := 9) (v := ?_) rfl (by kernel_rfl) (by kernel_rfl) (by kernel_rfl) (fun _ _ _ h => h) (Or.inl ⟨by rfl, ?_⟩) (by assumption) ?_
                  rotate_left
                  · (intro w hSw; (try dsimp only at hSw); go_simp; try with_reducible rfl)
                  simp only [Act.put, List.getElem_toArray, List.getElem_cons_succ, List.getElem_cons_zero, List.setIfInBounds_toArray, List.set_cons_zero, List.set_cons_succ]
                  refine wpAnyH_take (i := 10) (v := ?_) rfl (by kernel_rfl) (by kernel_rfl) (by kernel_rfl) (fun _ _ _ h => h) (Or.inl ⟨by rfl, ?_⟩) (by assumption) ?_
                  rotate_left
                  · (intro w hSw; (try dsimp only at hSw); go_simp; try with_reducible rfl)
                  simp only [Act.put, List.getElem_toArray, List.getElem_cons_succ, List.getElem_cons_zero, List.setIfInBounds_toArray, List.set_cons_zero, List.set_cons_succ]
                  refine wpAnyH_take (i := 11) (v := ?_) rfl (by kernel_rfl) (by kernel_rfl) (by kernel_rfl) (fun _ _ _ h => h) (Or.inl ⟨by rfl, ?_⟩) (by assumption) ?_
                  rotate_left
                  · (intro w hSw; (try dsimp only at hSw); go_simp; try with_reducible rfl)
                  simp only [Act.put, List.getElem_toArray, List.getElem_cons_succ, List.getElem_cons_zero, List.setIfInBounds_toArray, List.set_cons_zero, List.set_cons_succ]
                  refine wpAnyH_take (i := 12) (v := ?_) rfl (by kernel_rfl) (by kernel_rfl) (by kernel_rfl) (fun _ _ _ h => h) (Or.inl ⟨by rfl, ?_⟩) (by assumption) ?_
                  rotate_left
                  · (intro w hSw; (try dsimp only at hSw); go_simp; try with_reducible rfl)
                  simp only [Act.put, List.getElem_toArray, List.getElem_cons_succ, List.getElem_cons_zero, List.setIfInBounds_toArray, List.set_cons_zero, List.set_cons_succ]
                  refine wpAnyH_ready (rs := [13]) (by kernel_rfl) (by simp) ?_
                  refine AllReadyH.cons (o := _) rfl (fun K' hK' => ?_) AllReadyH.nil
                  clear hHeld
                  go_simp
                  refine (HCALL.out P n W11 _ (by omega) (by omega) hB9 ((Slc.cutP (((HRC.out.kept HGW.out HCD.out)).below hB9) HL.out (by omega) (by omega) (by omega) (by omega) (s := P) (e := n)).keep (Kept.refl _ _) (fun b _ e => by subst e; exact HCD.out))).mono ?_
                  rintro e W12 ⟨rfl, m3, x1, x2, x3, x4, x5⟩
                  have HX1 := Lib.hid x1
                  have HX2 := Lib.hid x2
                  have HX3 := Lib.hid x3
                  have HX4 := Lib.hid x4
                  have HX5 := Lib.hid (grown_trans HGW.out (grown_trans (grown_any (below_grown hB9) _) x5))
                  clear x1 x2 x3 x4 x5 hB9
                  refine hK'.out _ _ trivial (fun hHeld => ?_)
                  clear hK' K'
                  refine wpAnyH_done (by kernel_rfl) ?_ _
                  clear hHeld
                  go_wp2
                  go_roundw
                  case rel => exact ⟨q + 1, Q, m3, HQE, by omega, by go_num, HX1.out, HX2.out, HX3.out, HX4.out, HX5.out⟩
                  case measure => simp [intOf]; omega
                · by_cases hPn : n = P
                  · --CASE no second, just so
                    subst hPn
                    have hnQ : ¬ (Q ≤ n) := hcQ
                    go_wp2_with fail
                    obtain ⟨W11, hWD⟩ : ∃ xw9, wr.drew = xw9 := ⟨_, rfl⟩
                    have hB9 : Below wr.heap.size wr W11 := by rw [← hWD]; exact Below.drewN' (Below.refl _ _) 1
                    refine wp_region_held_drew (S := fun _ => True) (by kernel_rfl) trivial (fun hHeld => ?_)
                    rw [hWD]
                    clear hWD
                    refine wpAnyH_take (i := 0) (v := ?_) rfl (by kernel_rfl) (by kernel_rfl) (by kernel_rfl) (fun _ _ _ h => h) (Or.inl ⟨by rfl, ?_⟩) (by assumption) ?_
                    rotate_left
                    · (intro w hSw; (try dsimp only at hSw); go_simp; try with_reducible rfl)
                    simp only [Act.put, List.getElem_toArray, List.getElem_cons_zero, List.setIfInBounds_toArray, List.set_cons_zero, List.set_cons_succ]
                    refine wpAnyH_take (i := 1) (v := ?_) rfl (by kernel_rfl) (by kernel_rfl) (by kernel_rfl) (fun _ _ _ h => h) (Or.inl ⟨by rfl, ?_⟩) (by assumption) ?_
                    rotate_left
                    · (intro w hSw; (try dsimp only at hSw); go_simp; try with_reducible rfl)
                    simp only [Act.put, List.getElem_toArray, List.getElem_cons_succ, List.getElem_cons_zero, List.setIfInBounds_toArray, List.set_cons_zero, List.set_cons_succ]
                    refine wpAnyH_take (i := 2) (v := ?_) rfl (by kernel_rfl) (by kernel_rfl) (by kernel_rfl) (fun _ _ _ h => h) (Or.inl ⟨by rfl, ?_⟩) (by assumption) ?_
                    rotate_left
                    · (intro w hSw; (try dsimp only at hSw); go_simp; try with_reducible rfl)
                    simp only [Act.put, List.getElem_toArray, List.getElem_cons_succ, List.getElem_cons_zero, List.setIfInBounds_toArray, List.set_cons_zero, List.set_cons_succ]
                    refine wpAnyH_take (i := 3) (v := ?_) rfl (by kernel_rfl) (by kernel_rfl) (by kernel_rfl) (fun _ _ _ h => h) (Or.inl ⟨by rfl, ?_⟩) (by assumption) ?_
                    rotate_left
                    · (intro w hSw; (try dsimp only at hSw); go_simp; try with_reducible rfl)
                    simp only [Act.put, List.getElem_toArray, List.getElem_cons_succ, List.getElem_cons_zero, List.setIfInBounds_toArray, List.set_cons_zero, List.set_cons_succ]
                    refine wpAnyH_take (i := 4) (v := ?_) rfl (by kernel_rfl) (by kernel_rfl) (by kernel_rfl) (fun _ _ _ h => h) (Or.inl ⟨by rfl, ?_⟩) (by assumption) ?_
                    rotate_left
                    · (intro w hSw; (try dsimp only at hSw); go_simp; try with_reducible rfl)
                    simp only [Act.put, List.getElem_toArray, List.getElem_cons_succ, List.getElem_cons_zero, List.setIfInBounds_toArray, List.set_cons_zero, List.set_cons_succ]
                    refine wpAnyH_take (i := 5) (v := ?_) rfl (by kernel_rfl) (by kernel_rfl) (by kernel_rfl) (fun _ _ _ h => h) (Or.inl ⟨by rfl, ?_⟩) (by assumption) ?_
                    rotate_left
                    · (intro w hSw; (try dsimp only at hSw); go_simp; try with_reducible rfl)
                    simp only [Act.put, List.getElem_toArray, List.getElem_cons_succ, List.getElem_cons_zero, List.setIfInBounds_toArray, List.set_cons_zero, List.set_cons_succ]
                    refine wpAnyH_take (i := 6) (v := ?_) rfl (by kernel_rfl) (by kernel_rfl) (by kernel_rfl) (fun _ _ _ h => h) (Or.inl ⟨by rfl, ?_⟩) (by assumption) ?_
                    rotate_left
                    · (intro w hSw; (try dsimp only at hSw); go_simp; try with_reducible rfl)
                    simp only [Act.put, List.getElem_toArray, List.getElem_cons_succ, List.getElem_cons_zero, List.setIfInBounds_toArray, List.set_cons_zero, List.set_cons_succ]
                    refine wpAnyH_take (i := 7) (v := ?_) rfl (by kernel_rfl) (by kernel_rfl) (by kernel_rfl) (fun _ _ _ h => h) (Or.inl ⟨by rfl, ?_⟩) (by assumption) ?_
                    rotate_left
                    · (intro w hSw; (try dsimp only at hSw); go_simp; try with_reducible rfl)
                    simp only [Act.put, List.getElem_toArray, List.getElem_cons_succ, List.getElem_cons_zero, List.setIfInBounds_toArray, List.set_cons_zero, List.set_cons_succ]
                    refine wpAnyH_take (i := 8) (v := ?_) rfl (by kernel_rfl) (by kernel_rfl) (by kernel_rfl) (fun _ _ _ h => h) (Or.inl ⟨by rfl, ?_⟩) (by assumption) ?_
                    rotate_left
                    · (intro w hSw; (try dsimp only at hSw); go_simp; try with_reducible rfl)
                    simp only [Act.put, List.getElem_toArray, List.getElem_cons_succ, List.getElem_cons_zero, List.setIfInBounds_toArray, List.set_cons_zero, List.set_cons_succ]
                    refine wpAnyH_take (i := 9) (v := ?_) rfl (by kernel_rfl) (by kernel_rfl) (by kernel_rfl) (fun _ _ _ h => h) (Or.inl ⟨by rfl, ?_⟩) (by assumption) ?_
                    rotate_left
                    · (intro w hSw; (try dsimp only at hSw); go_simp; try with_reducible rfl)
                    simp only [Act.put, List.getElem_toArray, List.getElem_cons_succ, List.getElem_cons_zero, List.setIfInBounds_toArray, List.set_cons_zero, List.set_cons_succ]
                    refine wpAnyH_take (i := 10) (v := ?_) rfl (by kernel_rfl) (by kernel_rfl) (by kernel_rfl) (fun _ _ _ h => h) (Or.inl ⟨by rfl, ?_⟩) (by assumption) ?_
                    rotate_left
                    · (intro w hSw; (try dsimp only at hSw); go_simp; try with_reducible rfl)
                    simp only [Act.put, List.getElem_toArray, List.getElem_cons_succ, List.getElem_cons_zero, List.setIfInBounds_toArray, List.set_cons_zero, List.set_cons_succ]
                    refine wpAnyH_take (i := 11) (v := ?_) rfl (by kernel_rfl) (by kernel_rfl) (by kernel_rfl) (fun _ _ _ h => h) (Or.inl ⟨by rfl, ?_⟩) (by assumption) ?_
                    rotate_left
                    · (intro w hSw; (try dsimp only at hSw); go_simp; try with_reducible rfl)
                    simp only [Act.put, List.getElem_toArray, List.getElem_cons_succ, List.getElem_cons_zero, List.setIfInBounds_toArray, List.set_cons_zero, List.set_cons_succ]
                    refine wpAnyH_take (i := 12) (v := ?_) rfl (by kernel_rfl) (by kernel_rfl) (by kernel_rfl) (fun _ _ _ h => h) (Or.inl ⟨by rfl, ?_⟩) (by assumption) ?_
                    rotate_left
                    · (intro w hSw; (try dsimp only at hSw); go_simp; try with_reducible rfl)
                    simp only [Act.put, List.getElem_toArray, List.getElem_cons_succ, List.getElem_cons_zero, List.setIfInBounds_toArray, List.set_cons_zero, List.set_cons_succ]
                    refine wpAnyH_ready (rs := [13]) (by kernel_rfl) (by simp) ?_
                    refine AllReadyH.cons (o := _) rfl (fun K' hK' => ?_) AllReadyH.nil
                    clear hHeld
                    go_simp
                    refine (HCALL.out n n W11 (.slice (some ⟨c, 0, none⟩) 0 0) (by omega) (by omega) hB9 (by rw [Nat.sub_self, List.take_zero]; exact Slc.noneP _ rfl rfl)).mono ?_
                    rintro e W12 ⟨rfl, m3, x1, x2, x3, x4, x5⟩
                    have HX1 := Lib.hid x1
                    have HX2 := Lib.hid x2
                    have HX3 := Lib.hid x3
                    have HX4 := Lib.hid x4
                    have HX5 := Lib.hid (grown_trans HGW.out (grown_trans (grown_any (below_grown hB9) _) x5))
                    clear x1 x2 x3 x4 x5 hB9
                    refine hK'.out _ _ trivial (fun hHeld => ?_)
                    clear hK' K'
                    refine wpAnyH_done (by kernel_rfl) ?_ _
                    clear hHeld
                    go_wp2
                    go_roundw
                    case rel => exact ⟨q + 1, Q, m3, HQE, by omega, by go_num, HX1.out, HX2.out, HX3.out, HX4.out, HX5.out⟩
                    case measure => simp [intOf]; omega
                  · --CASE no second
                    have hnP : ¬ (P ≤ n) := by omega
                    go_wp2_with fail
                    obtain ⟨W11, hWD⟩ : ∃ xw9, wr.drew = xw9 := ⟨_, rfl⟩
                    have hB9 : Below wr.heap.size wr W11 := by rw [← hWD]; exact Below.drewN' (Below.refl _ _) 1
                    refine wp_region_held_drew (S := fun _ => True) (by kernel_rfl) trivial (fun hHeld => ?_)
                    rw [hWD]
                    clear hWD
                    refine wpAnyH_take (i := 0) (v := ?_) rfl (by kernel_rfl) (by kernel_rfl) (by kernel_rfl) (fun _ _ _ h => h) (Or.inl ⟨by rfl, ?_⟩) (by assumption) ?_
                    rotate_left
                    · (intro w hSw; (try dsimp only at hSw); go_simp; try with_reducible rfl)
                    simp only [Act.put, List.getElem_toArray, List.getElem_cons_zero, List.setIfInBounds_toArray, List.set_cons_zero, List.set_cons_succ]
                    refine wpAnyH_take (i := 1) (v := ?_) rfl (by kernel_rfl) (by kernel_rfl) (by kernel_rfl) (fun _ _ _ h => h) (Or.inl ⟨by rfl, ?_⟩) (by assumption) ?_
                    rotate_left
                    · (intro w hSw; (try dsimp only at hSw); go_simp; try with_reducible rfl)
                    simp only [Act.put, List.getElem_toArray, List.getElem_cons_succ, List.getElem_cons_zero, List.setIfInBounds_toArray, List.set_cons_zero, List.set_cons_succ]
                    refine wpAnyH_take (i := 2) (v := ?_) rfl (by kernel_rfl) (by kernel_rfl) (by kernel_rfl) (fun _ _ _ h => h) (Or.inl ⟨by rfl, ?_⟩) (by assumption) ?_
                    rotate_left
                    · (intro w hSw; (try dsimp only at hSw); go_simp; try with_reducible rfl)
                    simp only [Act.put, List.getElem_toArray, List.getElem_cons_succ, List.getElem_cons_zero, List.setIfInBounds_toArray, List.set_cons_zero, List.set_cons_succ]
                    refine wpAnyH_take (i := 3) (v := ?_) rfl (by kernel_rfl) (by kernel_rfl) (by kernel_rfl) (fun _ _ _ h => h) (Or.inl ⟨by rfl, ?_⟩) (by assumption) ?_
                    rotate_left
                    · (intro w hSw; (try dsimp only at hSw); go_simp; try with_reducible rfl)
                    simp only [Act.put, List.getElem_toArray, List.getElem_cons_succ, List.getElem_cons_zero, List.setIfInBounds_toArray, List.set_cons_zero, List.set_cons_succ]
                    refine wpAnyH_take (i := 4) (v := ?_) rfl (by kernel_rfl) (by kernel_rfl) (by kernel_rfl) (fun _ _ _ h => h) (Or.inl ⟨by rfl, ?_⟩) (by assumption) ?_
                    rotate_left
                    · (intro w hSw; (try dsimp only at hSw); go_simp; try with_reducible rfl)
                    simp only [Act.put, List.getElem_toArray, List.getElem_cons_succ, List.getElem_cons_zero, List.setIfInBounds_toArray, List.set_cons_zero, List.set_cons_succ]
                    refine wpAnyH_take (i := 5) (v := ?_) rfl (by kernel_rfl) (by kernel_rfl) (by kernel_rfl) (fun _ _ _ h => h) (Or.inl ⟨by rfl, ?_⟩) (by assumption) ?_
                    rotate_left
                    · (intro w hSw; (try dsimp only at hSw); go_simp; try with_reducible rfl)
                    simp only [Act.put, List.getElem_toArray, List.getElem_cons_succ, List.getElem_cons_zero, List.setIfInBounds_toArray, List.set_cons_zero, List.set_cons_succ]
                    refine wpAnyH_take (i := 6) (v := ?_) rfl (by kernel_rfl) (by kernel_rfl) (by kernel_rfl) (fun _ _ _ h => h) (Or.inl ⟨by rfl, ?_⟩) (by assumption) ?_
                    rotate_left
                    · (intro w hSw; (try dsimp only at hSw); go_simp; try with_reducible rfl)
                    simp only [Act.put, List.getElem_toArray, List.getElem_cons_succ, List.getElem_cons_zero, List.setIfInBounds_toArray, List.set_cons_zero, List.set_cons_succ]
                    refine wpAnyH_take (i := 7) (v := ?_) rfl (by kernel_rfl) (by kernel_rfl) (by kernel_rfl) (fun _ _ _ h => h) (Or.inl ⟨by rfl, ?_⟩) (by assumption) ?_
                    rotate_left
                    · (intro w hSw; (try dsimp only at hSw); go_simp; try with_reducible rfl)
                    simp only [Act.put, List.getElem_toArray, List.getElem_cons_succ, List.getElem_cons_zero, List.setIfInBounds_toArray, List.set_cons_zero, List.set_cons_succ]
                    refine wpAnyH_take (i := 8) (v := ?_) rfl (by kernel_rfl) (by kernel_rfl) (by kernel_rfl) (fun _ _ _ h => h) (Or.inl ⟨by rfl, ?_⟩) (by assumption) ?_
                    rotate_left
                    · (intro w hSw; (try dsimp only at hSw); go_simp; try with_reducible rfl)
                    simp only [Act.put, List.getElem_toArray, List.getElem_cons_succ, List.getElem_cons_zero, List.setIfInBounds_toArray, List.set_cons_zero, List.set_cons_succ]
                    refine wpAnyH_take (i := 9) (v := ?_) rfl (by kernel_rfl) (by kernel_rfl) (by kernel_rfl) (fun _ _ _ h => h) (Or.inl ⟨by rfl, ?_⟩) (by assumption) ?_
                    rotate_left
                    · (intro w hSw; (try dsimp only at hSw); go_simp; try with_reducible rfl)
                    simp only [Act.put, List.getElem_toArray, List.getElem_cons_succ, List.getElem_cons_zero, List.setIfInBounds_toArray, List.set_cons_zero, List.set_cons_succ]
                    refine wpAnyH_take (i := 10) (v := ?_) rfl (by kernel_rfl) (by kernel_rfl) (by kernel_rfl) (fun _ _ _ h => h) (Or.inl ⟨by rfl, ?_⟩) (by assumption) ?_
                    rotate_left
                    · (intro w hSw; (try dsimp only at hSw); go_simp; try with_reducible rfl)
                    simp only [Act.put, List.getElem_toArray, List.getElem_cons_succ, List.getElem_cons_zero, List.setIfInBounds_toArray, List.set_cons_zero, List.set_cons_succ]
                    refine wpAnyH_take (i := 11) (v := ?_) rfl (by kernel_rfl) (by kernel_rfl) (by kernel_rfl) (fun _ _ _ h => h) (Or.inl ⟨by rfl, ?_⟩) (by assumption) ?_
                    rotate_left
                    · (intro w hSw; (try dsimp only at hSw); go_simp; try with_reducible rfl)
                    simp only [Act.put, List.getElem_toArray, List.getElem_cons_succ, List.getElem_cons_zero, List.setIfInBounds_toArray, List.set_cons_zero, List.set_cons_succ]
                    refine wpAnyH_take (i := 12) (v := ?_) rfl (by kernel_rfl) (by kernel_rfl) (by kernel_rfl) (fun _ _ _ h => h) (Or.inl ⟨by rfl, ?_⟩) (by assumption) ?_
                    rotate_left
                    · (intro w hSw; (try dsimp only at hSw); go_simp; try with_reducible rfl)
                    simp only [Act.put, List.getElem_toArray, List.getElem_cons_succ, List.getElem_cons_zero, List.setIfInBounds_toArray, List.set_cons_zero, List.set_cons_succ]
                    refine wpAnyH_ready (rs := [13]) (by kernel_rfl) (by simp) ?_
                    refine AllReadyH.cons (o := _) rfl (fun K' hK' => ?_) AllReadyH.nil
                    clear hHeld
                    go_simp
                    refine (HCALL.out n n W11 (.slice (some ⟨c, 0, none⟩) 0 0) (by omega) (by omega) hB9 (by rw [Nat.sub_self, List.take_zero]; exact Slc.noneP _ rfl rfl)).mono ?_
                    rintro e W12 ⟨rfl, m3, x1, x2, x3, x4, x5⟩
                    have HX1 := Lib.hid x1
                    have HX2 := Lib.hid x2
                    have HX3 := Lib.hid x3
                    have HX4 := Lib.hid x4
                    have HX5 := Lib.hid (grown_trans HGW.out (grown_trans (grown_any (below_grown hB9) _) x5))
                    clear x1 x2 x3 x4 x5 hB9
                    refine hK'.out _ _ trivial (fun hHeld => ?_)
                    clear hK' K'
                    refine wpAnyH_done (by kernel_rfl) ?_ _
                    clear hHeld
                    go_wp2
                    go_roundw
                    case rel => exact ⟨q + 1, Q, m3, HQE, by omega, by go_num, HX1.out, HX2.out, HX3.out, HX4.out, HX5.out⟩
                    case measure => simp [intOf]; omega
            · go_wp2
              have e9 : m2.take F = m2 := List.take_of_length_le (by rw [HM2.out]; omega)
              rw [e9] at HMEM HRP2
              clear e9
              go_roundw
              case rel =>
                exact ⟨2 * r, d, c, m2, l, by omega, by omega, by go_num, rfl, rfl, Ne.symm HCD.out, HGD.out, HGC.out, HM2.out, HL.out, HMEM.out, HRP2.out, HRD2.out, HRC.out.kept HGW.out HCD.out, HB.out.grown HGW.out (by rw [← HG.out]; exact HB.out.size) (fun k hk => by cases hk; exact HGD.out)⟩
              case measure => simp [intOf]; omega
        · go_wp2
          go_ret
          refine ⟨_, l, rfl, so_of_pair HWK.out.tot HL.out HLT.out (HRP.out.all (by rw [HL.out]; omega)), ?_, by rw [HG.out]; exact HB.out⟩
          have h9 := HRC.out.slc (by rw [HL.out]; unfold maxLen; omega)
          rw [zL_len, HL.out] at h9
          exact h9.keep (Kept.refl _ _) (fun b _ e => by subst e; rw [HG.out]; exact HGC.out)
end Go.Proofs.YtbdbpamefkgelaaGreatDoor
