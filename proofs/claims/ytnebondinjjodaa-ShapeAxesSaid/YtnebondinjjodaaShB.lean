/- The reference's shapes, walked: Without, With. -/
import Derived.Test.YtnebondinjjodaaShA
import Derived.Test.YtnebondinjjodaaAp
namespace Go.Proofs.Ytnebondinjjodaa
open Go.RowKit
set_option linter.unusedVariables false
set_option maxRecDepth 8000

/-- Without what stands at a place. -/
def withoutR (s : List Int) (a : Int) : List Int := ((List.range s.length).filter fun i : Nat => decide ((i : Int) ≠ a)).map fun i => s.getD i 0
def withoutTo (s : List Int) (a : Int) (k : Nat) : List Int := ((List.range k).filter fun i : Nat => decide ((i : Int) ≠ a)).map fun i => s.getD i 0
theorem below_newA (w : World) (o : Obj) : Below w.heap.size w (w.alloc o) := (Below.refl _ _).alloc (Nat.le_refl _) _
theorem withoutTo_hit {s : List Int} {a : Int} {k : Nat} {x : Int} (h : s[k]? = some x) (hk : ¬ (k : Int) = a) : withoutTo s a (k + 1) = withoutTo s a k ++ [x] := by
  simp [withoutTo, List.range_succ, List.filter_append, hk, h]
theorem withoutTo_miss {s : List Int} {a : Int} {k : Nat} (hk : (k : Int) = a) : withoutTo s a (k + 1) = withoutTo s a k := by
  simp [withoutTo, List.range_succ, List.filter_append, hk]
theorem withoutTo_len (s : List Int) (a : Int) (k : Nat) : (withoutTo s a k).length ≤ k := by
  have := List.length_filter_le (fun i : Nat => decide ((i : Int) ≠ a)) (List.range k)
  simpa [withoutTo] using this

set_option maxHeartbeats 2000000 in
theorem rwithout_calls {ok : Nat → Prop} (v : Value) (s : List Int) (a : Int) (w : World) (hv : Slc w ok v s.length (ints s)) (hl : s.length ≤ 2000000) :
    Calls Try.prog 24 #[v, .int .i64 a] w fun e w' => ∃ v, e = .returned v ∧ Slc w' (fun b => w.heap.size ≤ b) v (withoutR s a).length (ints (withoutR s a)) ∧ Below w.heap.size w w' := by
  obtain ⟨i0, hi, hz0, hz1, hz2⟩ := info_parts info_int
  have HV := Lib.hid hv
  obtain ⟨ao, cap, rfl, _⟩ := hv.opened
  clear hv
  go_enter Try.func24, Try.ntmps24
  go_wp2
  go_loopw [5, 6] (fun v i wr => ∃ k : Nat, k ≤ s.length ∧ i = .int .i64 k ∧ wr.ownsRow w.heap.size 3 1 v (withoutTo s a k).length (ints (withoutTo s a k)) ∧ Below w.heap.size w wr) (fun _ i _ => s.length - (intOf i).toNat)
  case atStart => exact ⟨0, by omega, rfl, World.ownsRow_nil _ _ _ _, Below.refl _ _⟩
  case round =>
    obtain ⟨k, hk, rfl, hown, hB⟩ := hrel
    have HO := Lib.hid hown
    have HB := Lib.hid hB
    have hsz := hB.size
    have hle := withoutTo_len s a k
    by_cases hlt : k < s.length
    · obtain ⟨b, off, cap', x, e1, hx, hcx⟩ := slc_at (Value.int .i64) (show Slc _ ok (.slice ao s.length cap) s.length (s.map (Value.int .i64)) from HV.out) k hlt
      obtain ⟨e1a, e1b⟩ : ao = some ⟨b, off, none⟩ ∧ cap = cap' := by cases e1; exact ⟨rfl, rfl⟩
      subst e1a
      have hcl := keep_below hB _ _ hcx
      have HX := Lib.hid hx
      clear hown hB hcx hx e1 e1b
      by_cases hka : (k : Int) = a
      · have HT := Lib.hid (withoutTo_miss (s := s) hka)
        have hb : ((k : Int) != a) = false := by simpa using hka
        clear hka
        go_wp2
        go_roundw
        case rel => exact ⟨k + 1, by omega, by go_num, by rw [HT.out]; exact HO.out, HB.out⟩
        case measure => simp [intOf]; omega
      · have HT := Lib.hid (withoutTo_hit HX.out hka)
        have hb : ((k : Int) != a) = true := by simpa using hka
        obtain ⟨n, hn⟩ : ∃ n, n = (withoutTo s a k).length := ⟨_, rfl⟩
        have HN := Lib.hid hn
        rw [← hn] at hle HO
        clear hka hn
        go_wp2_with (at_builtin; refine wpList_append_own _ rfl _ _ 22 rfl w.heap.size 3 i0 (.int .i64 0) 1 8 Try.underlying22 hi hz0 hz1 hz2 rfl (by decide) _ n _ rfl (HO.out.alloc _) ⟨wr.heap.size, 0, none⟩ 1 1 [.int .i64 x] rfl rfl ?c1 ?c2 ?c3 ?c4 ?c5 ?_)
        case c1 =>
          intro j u hj
          match j, hj with
          | 0, hj => simp at hj; subst hj; simp [Addr.add]
        case c2 => intro u hu; simp at hu; subst hu; rfl
        case c3 => unfold maxLen; omega
        case c4 => omega
        case c5 => simp; omega
        intro v' w3 hown' hgrow _
        have HO3 := Lib.hid hown'
        have HB3 := Lib.hid (grown_below (HB.out.alloc hsz _) (HO.out.alloc _) (Nat.le_refl _) (by simp; omega) hgrow)
        clear hown' hgrow
        go_wp2
        go_roundw
        case rel =>
          refine ⟨k + 1, by omega, by go_num, ?_, HB3.out⟩
          have := HO3.out
          rw [HT.out, List.length_append, ← HN.out]
          simpa [ints] using this
        case measure => simp [intOf]; omega
    · have hkl : k = s.length := by omega
      have HK := Lib.hid hkl
      clear hown hB hkl
      go_wp2
      go_ret
      refine ⟨_, rfl, ?_, HB.out⟩
      have := Slc.owned HO.out
      rwa [HK.out] at this
theorem ints_oneC (l : List Int) : ∀ u ∈ ints l, u.oneCell' = true := by intro u hu; simp only [ints, List.mem_map] at hu; obtain ⟨z, _, rfl⟩ := hu; rfl
set_option maxHeartbeats 2000000 in
theorem rwith_calls {ok : Nat → Prop} (v : Value) (s : List Int) (k : Nat) (n : Int) (w : World) (hv : Slc w ok v s.length (ints s)) (hl : s.length ≤ 2000000) (hk : k < s.length) :
    Calls Try.prog 23 #[v, .int .i64 (k : Int), .int .i64 n] w fun e w' => ∃ v, e = .returned v ∧ Slc w' (fun b => w.heap.size ≤ b) v s.length (ints (s.set k n)) ∧ Below w.heap.size w w' := by
  obtain ⟨i0, hi, hz0, hz1, hz2⟩ := info_parts info_int
  have HV := Lib.hid hv
  obtain ⟨ao, cap, rfl, _⟩ := hv.opened
  have HM := Lib.hid (show s.length ≤ maxLen by unfold maxLen; omega)
  have HK := Lib.hid hk
  clear hv
  go_enter Try.func23, Try.ntmps23
  go_wp2_with (at_builtin; refine wpList_append_came _ rfl _ _ 22 rfl w.heap.size 3 i0 (.int .i64 0) 8 Try.underlying22 hi hz0 hz1 hz2 rfl w.heap.size rfl (own_empty _ _ _ (Nat.le_refl _)) ao s.length cap (ints s) rfl ((HV.out.below (below_newA _ _)).1) (ints_oneC s) HM.out (by omega) (by simp) ?_)
  intro vx W1 hox hgx
  have HB := Lib.hid (show Below w.heap.size w W1 from grown_below (below_newA _ _) (own_empty w 3 w.heap.size (Nat.le_refl _)) (Nat.le_refl _) (by simp) hgx)
  obtain ⟨g, c, rfl, hg, _⟩ := owns_shape hox (by omega)
  have hcw := owns_cell hox k (by rw [ints_len]; exact hk)
  have hfr := World.ownsRow.frozenAt hox k
  rw [ints_get] at hcw
  obtain ⟨x, hx⟩ : ∃ x, x = s[k]'hk := ⟨_, rfl⟩
  rw [← hx] at hcw
  have HO := Lib.hid hox
  have HG := Lib.hid hg
  clear hox hgx hx
  go_wp2
  go_ret
  refine ⟨_, rfl, ?_, HB.out.setCell HG.out _⟩
  have h2 := (World.ownsRow.stored HO.out k (.int .i64 n)).1
  have h3 := Slc.owned h2
  have e : (ints s).set k (Value.int .i64 n) = ints (s.set k n) := by simp [ints, List.map_set]
  rw [e] at h3
  exact h3
end Go.Proofs.Ytnebondinjjodaa
