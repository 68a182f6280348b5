/- Merged: ShM, ShA, ShB, ShC, ShD, ShE, ShS, ShP, ShQ, ShR, Cat, ShT, ShU, ShV, ShW. -/
import Derived.Lib.AppendZerosOnto
import Derived.Test.YtbfcdpabjailcaaGreatDoorMgBv1
import Derived.Test.YtbfcdpabjailcaaGreatDoorMgVe1
/- Shapes: how many elements, plain. -/
namespace Go.Proofs.YtbfcdpabjailcaaGreatDoor
set_option maxRecDepth 100000
set_option linter.unusedVariables false
/-- The product of what is not 0. -/
def nzp (s : List Int) : Int := s.foldl (fun n x => if 0 < x then n * x else n) 1
def anyZ (s : List Int) : Bool := s.any (fun x => x == 0)
def anyN (s : List Int) : Bool := s.any (fun x => decide (x < 0))
/-- P6.1: how many elements, and what is wrong. -/
def prodR (s : List Int) (most : Int) : Int × Int :=
  if 8 < s.length then (0, 26) else if anyN s = true then (0, 24) else if 1048576 < nzp s then (0, 26)
  else if most < (if anyZ s = true then 0 else nzp s) then (0, 26) else ((if anyZ s = true then 0 else nzp s), 0)
theorem nzp_nil : nzp [] = 1 := rfl
theorem nzp_snoc (s : List Int) (x : Int) : nzp (s ++ [x]) = if 0 < x then nzp s * x else nzp s := by simp [nzp, List.foldl_append]
theorem nzp_pos (s : List Int) : 1 ≤ nzp s := by
  have : ∀ (l : List Int) (a : Int), 1 ≤ a → 1 ≤ l.foldl (fun n x => if 0 < x then n * x else n) a := by
    intro l
    induction l with
    | nil => intro a h; exact h
    | cons x l ih =>
      intro a h
      rw [List.foldl_cons]
      apply ih
      split
      · have : a * 1 ≤ a * x := Int.mul_le_mul_of_nonneg_left (by omega) (by omega)
        omega
      · exact h
  exact this s 1 (by omega)
theorem take_snoc {s : List Int} {k : Nat} {x : Int} (h : s[k]? = some x) : s.take (k + 1) = s.take k ++ [x] := by
  obtain ⟨hk, e⟩ := List.getElem?_eq_some_iff.1 h
  rw [List.take_succ_eq_append_getElem hk, e]
theorem nzp_take {s : List Int} {k : Nat} {x : Int} (h : s[k]? = some x) : nzp (s.take (k + 1)) = if 0 < x then nzp (s.take k) * x else nzp (s.take k) := by rw [take_snoc h, nzp_snoc]
theorem nzp_mono {s : List Int} {k : Nat} {x : Int} (h : s[k]? = some x) : nzp (s.take k) ≤ nzp (s.take (k + 1)) ∧ (0 < x → x ≤ nzp (s.take (k + 1))) := by
  rw [nzp_take h]
  have hp := nzp_pos (s.take k)
  split
  · rename_i hx
    have h1 : nzp (s.take k) * 1 ≤ nzp (s.take k) * x := Int.mul_le_mul_of_nonneg_left (by omega) (by omega)
    have h2 : 1 * x ≤ nzp (s.take k) * x := Int.mul_le_mul_of_nonneg_right hp (by omega)
    exact ⟨by omega, fun _ => by omega⟩
  · exact ⟨Int.le_refl _, fun h => absurd h (by assumption)⟩
theorem nzp_le (s : List Int) : ∀ d k, k + d = s.length → nzp (s.take k) ≤ nzp s := by
  intro d
  induction d with
  | zero => intro k h; rw [List.take_of_length_le (by omega)]; exact Int.le_refl _
  | succ d ih =>
    intro k h
    have hk : k < s.length := by omega
    have := (nzp_mono (List.getElem?_eq_getElem hk)).1
    exact Int.le_trans this (ih (k + 1) (by omega))
theorem nzp_take_le (s : List Int) (k : Nat) (hk : k ≤ s.length) : nzp (s.take k) ≤ nzp s := nzp_le s (s.length - k) k (by omega)
theorem nzp_mem {s : List Int} {k : Nat} {x : Int} (h : s[k]? = some x) (hx : 0 < x) : x ≤ nzp s := by
  obtain ⟨hk, _⟩ := List.getElem?_eq_some_iff.1 h
  exact Int.le_trans ((nzp_mono h).2 hx) (nzp_take_le s (k + 1) (by omega))
theorem anyZ_take {s : List Int} {k : Nat} {x : Int} (h : s[k]? = some x) : anyZ (s.take (k + 1)) = (anyZ (s.take k) || x == 0) := by rw [take_snoc h]; simp [anyZ]
theorem anyN_take {s : List Int} {k : Nat} {x : Int} (h : s[k]? = some x) : anyN (s.take (k + 1)) = (anyN (s.take k) || decide (x < 0)) := by rw [take_snoc h]; simp [anyN]
theorem anyN_mem {s : List Int} {k : Nat} {x : Int} (h : s[k]? = some x) (hn : anyN s = false) : ¬ x < 0 := by
  intro hx
  have : anyN s = true := List.any_eq_true.2 ⟨x, List.mem_of_getElem? h, by simpa using hx⟩
  rw [hn] at this; cases this
theorem anyN_hit {s : List Int} {k : Nat} {x : Int} (h : s[k]? = some x) (hx : x < 0) : anyN s = true := List.any_eq_true.2 ⟨x, List.mem_of_getElem? h, by simpa using hx⟩
theorem prodR_long {s : List Int} {most : Int} (h : 8 < s.length) : prodR s most = (0, 26) := by unfold prodR; rw [if_pos h]
theorem prodR_neg {s : List Int} {most : Int} (h : ¬ 8 < s.length) (hn : anyN s = true) : prodR s most = (0, 24) := by unfold prodR; rw [if_neg h, if_pos hn]
theorem prodR_much {s : List Int} {most : Int} (h : ¬ 8 < s.length) (hn : anyN s = false) (hm : 1048576 < nzp s) : prodR s most = (0, 26) := by unfold prodR; rw [if_neg h, if_neg (by rw [hn]; simp), if_pos hm]
theorem prodR_fit {s : List Int} {most : Int} (h : ¬ 8 < s.length) (hn : anyN s = false) (hm : ¬ 1048576 < nzp s) : prodR s most = if most < (if anyZ s = true then 0 else nzp s) then (0, 26) else ((if anyZ s = true then 0 else nzp s), 0) := by
  unfold prodR; rw [if_neg h, if_neg (by rw [hn]; simp), if_neg hm]
end Go.Proofs.YtbfcdpabjailcaaGreatDoor

/- The reference's shapes, walked: Product, Good. -/
namespace Go.Proofs.YtbfcdpabjailcaaGreatDoor
open Go.RowKit
set_option linter.unusedVariables false
set_option maxRecDepth 100000

theorem slc_at {α : Type} {w : World} {ok : Nat → Prop} {s : Value} {l : List α} (f : α → Value) (h : Slc w ok s l.length (l.map f)) (k : Nat) (hk : k < l.length) :
    ∃ b off cap x, s = .slice (some ⟨b, off, none⟩) l.length cap ∧ l[k]? = some x ∧ w.cell? ⟨b, off + k, none⟩ = some (f x) := by
  obtain ⟨ao, cap, rfl, _, _, _, hc⟩ := h.opened
  obtain ⟨b, off, rfl, _, hcl⟩ := hc k (by simpa using hk)
  refine ⟨b, off, cap, l[k], rfl, List.getElem?_eq_getElem hk, ?_⟩
  rw [hcl]; simp
theorem ret_pr {s : List Int} {most a b : Int} (h : prodR s most = (a, b)) : Ending.returned (.tuple #[.int .i64 a, .int .i64 b]) = .returned (.tuple #[.int .i64 (prodR s most).1, .int .i64 (prodR s most).2]) := by rw [h]

set_option maxHeartbeats 2000000 in
theorem rproduct_calls {ok : Nat → Prop} (v : Value) (s : List Int) (most : Int) (w : World) (hv : Slc w ok v s.length (ints s)) (hl : s.length ≤ 9223372036854775807) :
    Calls Tryz.prog 33 #[v, .int .i64 most] w fun e w' => e = .returned (.tuple #[.int .i64 (prodR s most).1, .int .i64 (prodR s most).2]) ∧ w = w' := by
  have HV := Lib.hid hv
  obtain ⟨ao, cap, rfl, _⟩ := hv.opened
  clear hv
  by_cases h8 : 8 < s.length
  · have HP := Lib.hid (prodR_long (most := most) h8)
    go_enter Tryz.func33, Tryz.ntmps33
    go_wp2
    go_ret2
    exact ⟨ret_pr HP.out, rfl⟩
  · have H8 := Lib.hid h8
    have hlen : s.length ≤ 8 := by omega
    clear h8 hl
    go_enter Tryz.func33, Tryz.ntmps33
    go_wp2
    go_loopw [7, 8] (fun z i wr => ∃ k : Nat, k ≤ s.length ∧ i = .int .i64 k ∧ z = .bool (anyZ (s.take k)) ∧ wr = w ∧ anyN (s.take k) = false) (fun _ i _ => s.length - (intOf i).toNat)
    case atStart => exact ⟨0, by omega, rfl, rfl, rfl, rfl⟩
    case round =>
      obtain ⟨k, hk, rfl, rfl, rfl, hN⟩ := hrel
      have HN := Lib.hid hN
      clear hN
      by_cases hlt : k < s.length
      · obtain ⟨b, off, cap', x, e1, hx, hcx⟩ := slc_at (Value.int .i64) (show Slc _ ok (.slice ao s.length cap) s.length (s.map (Value.int .i64)) from HV.out) k hlt
        obtain ⟨e1a, e1b⟩ : ao = some ⟨b, off, none⟩ ∧ cap = cap' := by cases e1; exact ⟨rfl, rfl⟩
        subst e1a
        have HX := Lib.hid hx
        clear hx e1 e1b
        by_cases hneg : x < 0
        · have HP := Lib.hid (prodR_neg (most := most) H8.out (anyN_hit HX.out hneg))
          go_wp2
          go_ret2
          exact ⟨ret_pr HP.out, rfl⟩
        · have HN2 := Lib.hid (show anyN (s.take (k + 1)) = false by rw [anyN_take HX.out, HN.out]; simpa using hneg)
          have HZ2 := Lib.hid (anyZ_take HX.out)
          obtain ⟨z, hz⟩ : ∃ z, z = anyZ (s.take k) := ⟨_, rfl⟩
          rw [← hz] at HZ2 ⊢
          clear hz
          cases z
          · by_cases hx0 : x = 0
            · subst hx0
              go_wp2
              go_roundw
              case rel => exact ⟨k + 1, by omega, by go_num, by rw [HZ2.out]; rfl, by trivial, HN2.out⟩
              case measure => simp [intOf]; omega
            · have hx0' : (x == 0) = false := by simpa using hx0
              have HZ3 := Lib.hid (show anyZ (s.take (k + 1)) = false by rw [HZ2.out, hx0']; rfl)
              clear hx0
              go_wp2
              go_roundw
              case rel => exact ⟨k + 1, by omega, by go_num, by rw [HZ3.out], by trivial, HN2.out⟩
              case measure => simp [intOf]; omega
          · go_wp2
            go_roundw
            case rel => exact ⟨k + 1, by omega, by go_num, by rw [HZ2.out]; rfl, by trivial, HN2.out⟩
            case measure => simp [intOf]; omega
      · have hkl : k = s.length := by omega
        have HNN := Lib.hid (show anyN s = false by have := HN.out; rwa [hkl, List.take_length] at this)
        have hzz : s.take k = s := by rw [hkl, List.take_length]
        rw [hzz]
        clear hkl hzz
        obtain ⟨z, hz⟩ : ∃ z, z = anyZ s := ⟨_, rfl⟩
        have HZZ := Lib.hid hz
        rw [← hz]
        clear hz
        go_wp2
        go_loopw [6, 9] (fun n i wq => ∃ k : Nat, k ≤ s.length ∧ i = .int .i64 k ∧ n = .int .i64 (nzp (s.take k)) ∧ wq = wr ∧ nzp (s.take k) ≤ 1048576) (fun _ i _ => s.length - (intOf i).toNat)
        case atStart => exact ⟨0, by omega, rfl, rfl, rfl, by rw [List.take_zero, nzp_nil]; decide⟩
        case round =>
          obtain ⟨k2, hk2, rfl, rfl, rfl, hM⟩ := hrel
          have hP := nzp_pos (s.take k2)
          obtain ⟨n, hn⟩ : ∃ n, n = nzp (s.take k2) := ⟨_, rfl⟩
          have HNE := Lib.hid hn
          rw [← hn] at hM hP ⊢
          clear hn
          by_cases hlt : k2 < s.length
          · obtain ⟨b, off, cap', x, e1, hx, hcx⟩ := slc_at (Value.int .i64) (show Slc _ ok (.slice ao s.length cap) s.length (s.map (Value.int .i64)) from HV.out) k2 hlt
            obtain ⟨e1a, e1b⟩ : ao = some ⟨b, off, none⟩ ∧ cap = cap' := by cases e1; exact ⟨rfl, rfl⟩
            subst e1a
            have HX := Lib.hid hx
            have hnn := anyN_mem hx HNN.out
            clear hx e1 e1b
            by_cases hbig : 1048576 < x
            · have HP := Lib.hid (prodR_much (most := most) H8.out HNN.out (by have := nzp_mem HX.out (by omega); omega))
              go_wp2
              go_ret2
              exact ⟨ret_pr HP.out, rfl⟩
            · by_cases hpos : 0 < x
              · have HT := Lib.hid (show nzp (s.take (k2 + 1)) = n * x by rw [nzp_take HX.out, if_pos hpos, ← HNE.out])
                obtain ⟨m, hm⟩ : ∃ m, n * x = m := ⟨_, rfl⟩
                have hm2 : m ≤ 1099511627776 := by
                  have h1 : n * x ≤ 1048576 * x := Int.mul_le_mul_of_nonneg_right hM (by omega)
                  omega
                have hm1 : 0 ≤ m := by
                  have := Int.mul_nonneg (show 0 ≤ n by omega) (show 0 ≤ x by omega)
                  omega
                rw [hm] at HT
                by_cases hmb : 1048576 < m
                · have HP := Lib.hid (prodR_much (most := most) H8.out HNN.out (by have := nzp_take_le s (k2 + 1) (by omega); rw [HT.out] at this; omega))
                  go_wp2
                  go_ret2
                  exact ⟨ret_pr HP.out, rfl⟩
                · go_wp2
                  go_roundw
                  case rel => exact ⟨k2 + 1, by omega, by go_num, by rw [HT.out], by trivial, by rw [HT.out]; omega⟩
                  case measure => simp [intOf]; omega
              · have HT := Lib.hid (show nzp (s.take (k2 + 1)) = n by rw [nzp_take HX.out, if_neg hpos, ← HNE.out])
                go_wp2
                go_roundw
                case rel => exact ⟨k2 + 1, by omega, by go_num, by rw [HT.out], by trivial, by rw [HT.out]; omega⟩
                case measure => simp [intOf]; omega
          · have hkl : k2 = s.length := by omega
            have HNF := Lib.hid (show nzp s = n by have := HNE.out; rw [hkl, List.take_length] at this; exact this.symm)
            have HP := Lib.hid (prodR_fit (most := most) H8.out HNN.out (by rw [HNF.out]; omega))
            rw [HNF.out, ← HZZ.out] at HP
            clear hkl
            cases z
            · by_cases hmost : most < n
              · go_wp2
                go_ret2
                exact ⟨ret_pr (HP.out.trans (by simp [hmost])), rfl⟩
              · go_wp2
                go_ret2
                exact ⟨ret_pr (HP.out.trans (by simp [hmost])), rfl⟩
            · by_cases hmost : most < 0
              · go_wp2
                go_ret2
                exact ⟨ret_pr (HP.out.trans (by simp [hmost])), rfl⟩
              · go_wp2
                go_ret2
                exact ⟨ret_pr (HP.out.trans (by simp [hmost])), rfl⟩
end Go.Proofs.YtbfcdpabjailcaaGreatDoor

/- The reference's shapes, walked: Without, With. -/
namespace Go.Proofs.YtbfcdpabjailcaaGreatDoor
open Go.RowKit
set_option linter.unusedVariables false
set_option maxRecDepth 100000

end Go.Proofs.YtbfcdpabjailcaaGreatDoor

/- The reference's shapes, walked: Place. -/
namespace Go.Proofs.YtbfcdpabjailcaaGreatDoor
open Go.RowKit
set_option linter.unusedVariables false
set_option maxRecDepth 100000

end Go.Proofs.YtbfcdpabjailcaaGreatDoor

/- Shapes: places and indexes, plain. -/
namespace Go.Proofs.YtbfcdpabjailcaaGreatDoor
set_option maxRecDepth 100000
open Go.RowKit
set_option linter.unusedVariables false

end Go.Proofs.YtbfcdpabjailcaaGreatDoor

/- The reference's shapes, walked: All. -/
namespace Go.Proofs.YtbfcdpabjailcaaGreatDoor
open Go.RowKit
set_option linter.unusedVariables false
set_option maxRecDepth 100000

/-- v is a slice of slices: the lists L. -/
def RowsI (w : World) (ok : Nat → Prop) (v : Value) (L : List (List Int)) : Prop :=
  ∃ f : Nat → Value, Slc w ok v L.length ((List.range L.length).map f) ∧ ∀ i (h : i < L.length), Slc w ok (f i) (L[i]).length (ints (L[i]))
theorem RowsI.below {w w' : World} {ok : Nat → Prop} {v : Value} {L : List (List Int)} (h : RowsI w ok v L) (hb : Below w.heap.size w w') : RowsI w' ok v L := by
  obtain ⟨f, h1, h2⟩ := h
  exact ⟨f, h1.below hb, fun i hi => (h2 i hi).below hb⟩
end Go.Proofs.YtbfcdpabjailcaaGreatDoor

/- Shapes: what the functions of package shape tell, plain. -/
namespace Go.Proofs.YtbfcdpabjailcaaGreatDoor
set_option maxRecDepth 100000
open Go.RowKit
set_option linter.unusedVariables false

end Go.Proofs.YtbfcdpabjailcaaGreatDoor

/- Shapes: what the landed functions reckon, plain; parts of slices. -/
namespace Go.Proofs.YtbfcdpabjailcaaGreatDoor
set_option maxRecDepth 100000
open Go.RowKit
set_option linter.unusedVariables false

theorem anyZ_hit {s : List Int} {k : Nat} (h : s[k]? = some 0) : anyZ s = true := List.any_eq_true.2 ⟨0, List.mem_of_getElem? h, rfl⟩
theorem Slc.take {w : World} {ok : Nat → Prop} {ao : Option Addr} {cap : Nat} {s : List Int} (h : Slc w ok (.slice ao s.length cap) s.length (ints s)) (k : Nat) (hk : k ≤ s.length) : Slc w ok (.slice ao k cap) (s.take k).length (ints (s.take k)) := by
  obtain ⟨⟨h1, ao1, cap1, e1, h3⟩, ao2, cap2, e2, h4, h5⟩ := h
  cases e1; cases e2
  have hl : (s.take k).length = k := by rw [List.length_take]; omega
  rw [hl]
  refine ⟨⟨by rw [ints_len, hl], ao, cap, rfl, fun i hi => ?_⟩, ao, cap, rfl, by omega, h5⟩
  rw [ints_len, hl] at hi
  obtain ⟨b, off, e, hb, hc⟩ := h3 i (by rw [ints_len]; omega)
  refine ⟨b, off, e, hb, ?_⟩
  rw [hc, ints_get, ints_get, List.getElem_take]
theorem Slc.drop {w : World} {ok : Nat → Prop} {b off : Nat} {cap : Nat} {s : List Int} (h : Slc w ok (.slice (some ⟨b, off, none⟩) s.length cap) s.length (ints s)) (k : Nat) (hk : k ≤ s.length) : Slc w ok (.slice (some ⟨b, off + k, none⟩) (s.length - k) (cap - k)) (s.drop k).length (ints (s.drop k)) := by
  obtain ⟨⟨h1, ao1, cap1, e1, h3⟩, ao2, cap2, e2, h4, h5⟩ := h
  cases e1; cases e2
  rw [List.length_drop]
  refine ⟨⟨by rw [ints_len, List.length_drop], _, _, rfl, fun i hi => ?_⟩, _, _, rfl, by omega, by omega⟩
  rw [ints_len, List.length_drop] at hi
  obtain ⟨b', off', e, hb, hc⟩ := h3 (k + i) (by rw [ints_len]; omega)
  cases e
  refine ⟨b, off + k, rfl, hb, ?_⟩
  rw [show off + k + i = off + (k + i) by omega, hc, ints_get, ints_get, List.getElem_drop]
end Go.Proofs.YtbfcdpabjailcaaGreatDoor

/- Package shape, walked: Product, Good; slices.ContainsFunc, slices.Contains. -/
namespace Go.Proofs.YtbfcdpabjailcaaGreatDoor
open Go.RowKit
set_option linter.unusedVariables false
set_option maxRecDepth 100000

theorem sneg_calls (x : Int) (w : World) : Calls Tryz.prog 52 #[.int .i64 x] w fun e w' => e = .returned (.bool (decide (x < 0))) ∧ w = w' := by
  go_enter Tryz.func52, Tryz.ntmps52
  go_wp2
  go_ret
  exact ⟨rfl, rfl⟩

set_option maxHeartbeats 1000000 in
theorem sindexf_calls {ok : Nat → Prop} (v : Value) (s : List Int) (w : World) (hv : Slc w ok v s.length (ints s)) (hl : s.length ≤ 9223372036854775807) :
    Calls Tryz.prog 77 #[v, .func (.func 52) #[] #[]] w fun e w' => ∃ r : Int, e = .returned (.int .i64 r) ∧ decide (0 ≤ r) = anyN s ∧ w = w' := by
  have HV := Lib.hid hv
  obtain ⟨ao, cap, rfl, _⟩ := hv.opened
  clear hv
  go_enter Tryz.func77, Tryz.ntmps77
  go_wp2
  go_loopw [8] (fun i wr => ∃ k : Nat, k ≤ s.length ∧ i = .int .i64 k ∧ wr = w ∧ anyN (s.take k) = false) (fun i _ => s.length - (intOf i).toNat)
  case atStart => exact ⟨0, by omega, rfl, rfl, rfl⟩
  case round =>
    obtain ⟨k, hk, rfl, rfl, hN⟩ := hrel
    have HN := Lib.hid hN
    clear hN
    by_cases hlt : k < s.length
    · obtain ⟨b, off, cap', x, e1, hx, hcx⟩ := slc_at (Value.int .i64) (show Slc _ ok (.slice ao s.length cap) s.length (s.map (Value.int .i64)) from HV.out) k hlt
      obtain ⟨e1a, e1b⟩ : ao = some ⟨b, off, none⟩ ∧ cap = cap' := by cases e1; exact ⟨rfl, rfl⟩
      subst e1a
      have HX := Lib.hid hx
      clear hx e1 e1b
      by_cases hneg : x < 0
      · have HP := Lib.hid (anyN_hit HX.out hneg)
        have HD := Lib.hid (decide_eq_true hneg)
        clear hneg
        go_wp2_with fail
        refine (sneg_calls _ _).mono ?_
        rintro e w' ⟨rfl, rfl⟩
        rw [HD.out]
        go_wp2
        go_ret
        exact ⟨_, rfl, by rw [HP.out]; exact decide_eq_true (by omega), rfl⟩
      · have HN2 := Lib.hid (show anyN (s.take (k + 1)) = false by rw [anyN_take HX.out, HN.out]; simpa using hneg)
        have HD := Lib.hid (decide_eq_false hneg)
        clear hneg
        go_wp2_with fail
        refine (sneg_calls _ _).mono ?_
        rintro e w' ⟨rfl, rfl⟩
        rw [HD.out]
        go_wp2
        go_roundw
        case rel => exact ⟨k + 1, by omega, by go_num, by trivial, HN2.out⟩
        case measure => simp [intOf]; omega
    · have hkl : k = s.length := by omega
      have HNN := Lib.hid (show anyN s = false by have := HN.out; rwa [hkl, List.take_length] at this)
      clear hkl
      go_wp2
      go_ret
      exact ⟨_, rfl, by rw [HNN.out]; rfl, rfl⟩
theorem scontf_calls {ok : Nat → Prop} (v : Value) (s : List Int) (w : World) (hv : Slc w ok v s.length (ints s)) (hl : s.length ≤ 9223372036854775807) :
    Calls Tryz.prog 51 #[v, .func (.func 52) #[] #[]] w fun e w' => e = .returned (.bool (anyN s)) ∧ w = w' := by
  have HV := Lib.hid hv
  clear hv
  go_enter Tryz.func51, Tryz.ntmps51
  go_wp2_with fail
  refine (sindexf_calls _ s _ HV.out hl).mono ?_
  rintro e w1 ⟨r, rfl, hr, rfl⟩
  have HR := Lib.hid hr
  clear hr
  go_wp2
  go_ret
  exact ⟨ret_b HR.out, rfl⟩

set_option maxHeartbeats 1000000 in
theorem sindexz_calls {ok : Nat → Prop} (v : Value) (s : List Int) (w : World) (hv : Slc w ok v s.length (ints s)) (hl : s.length ≤ 9223372036854775807) :
    Calls Tryz.prog 78 #[v, .int .i64 0] w fun e w' => ∃ r : Int, e = .returned (.int .i64 r) ∧ decide (0 ≤ r) = anyZ s ∧ w = w' := by
  have HV := Lib.hid hv
  obtain ⟨ao, cap, rfl, _⟩ := hv.opened
  clear hv
  go_enter Tryz.func78, Tryz.ntmps78
  go_wp2
  go_loopw [8] (fun i wr => ∃ k : Nat, k ≤ s.length ∧ i = .int .i64 k ∧ wr = w ∧ anyZ (s.take k) = false) (fun i _ => s.length - (intOf i).toNat)
  case atStart => exact ⟨0, by omega, rfl, rfl, rfl⟩
  case round =>
    obtain ⟨k, hk, rfl, rfl, hN⟩ := hrel
    have HN := Lib.hid hN
    clear hN
    by_cases hlt : k < s.length
    · obtain ⟨b, off, cap', x, e1, hx, hcx⟩ := slc_at (Value.int .i64) (show Slc _ ok (.slice ao s.length cap) s.length (s.map (Value.int .i64)) from HV.out) k hlt
      obtain ⟨e1a, e1b⟩ : ao = some ⟨b, off, none⟩ ∧ cap = cap' := by cases e1; exact ⟨rfl, rfl⟩
      subst e1a
      have HX := Lib.hid hx
      clear hx e1 e1b
      by_cases hz : x = 0
      · subst hz
        have HP := Lib.hid (anyZ_hit HX.out)
        go_wp2
        go_ret
        exact ⟨_, rfl, by rw [HP.out]; exact decide_eq_true (by omega), rfl⟩
      · have HN2 := Lib.hid (show anyZ (s.take (k + 1)) = false by rw [anyZ_take HX.out, HN.out]; simpa using hz)
        have hb : ((0 : Int) == x) = false := by simpa using fun e => hz (Eq.symm e)
        clear hz
        go_wp2
        go_roundw
        case rel => exact ⟨k + 1, by omega, by go_num, by trivial, HN2.out⟩
        case measure => simp [intOf]; omega
    · have hkl : k = s.length := by omega
      have HNN := Lib.hid (show anyZ s = false by have := HN.out; rwa [hkl, List.take_length] at this)
      clear hkl
      go_wp2
      go_ret
      exact ⟨_, rfl, by rw [HNN.out]; rfl, rfl⟩
theorem scontz_calls {ok : Nat → Prop} (v : Value) (s : List Int) (w : World) (hv : Slc w ok v s.length (ints s)) (hl : s.length ≤ 9223372036854775807) :
    Calls Tryz.prog 53 #[v, .int .i64 0] w fun e w' => e = .returned (.bool (anyZ s)) ∧ w = w' := by
  have HV := Lib.hid hv
  clear hv
  go_enter Tryz.func53, Tryz.ntmps53
  go_wp2_with fail
  refine (sindexz_calls _ s _ HV.out hl).mono ?_
  rintro e w1 ⟨r, rfl, hr, rfl⟩
  have HR := Lib.hid hr
  clear hr
  go_wp2
  go_ret
  exact ⟨ret_b HR.out, rfl⟩
end Go.Proofs.YtbfcdpabjailcaaGreatDoor

/- Package shape, walked: Product, Good, has. -/
namespace Go.Proofs.YtbfcdpabjailcaaGreatDoor
open Go.RowKit
set_option linter.unusedVariables false
set_option maxRecDepth 100000

theorem quo_big {c x : Int} (hc : 1 ≤ c) (hx : 0 ≤ x) : 1048576 / c < x ↔ 1048576 < c * x := by
  have h1 := Int.mul_ediv_add_emod 1048576 c
  have h2 := Int.emod_nonneg 1048576 (show c ≠ 0 by omega)
  have h3 := Int.emod_lt_of_pos 1048576 (show 0 < c by omega)
  constructor
  · intro h
    have := Int.mul_le_mul_of_nonneg_left (show 1048576 / c + 1 ≤ x by omega) (show 0 ≤ c by omega)
    rw [Int.mul_add, Int.mul_one] at this
    omega
  · intro h
    apply Int.lt_of_not_ge
    intro hle
    have := Int.mul_le_mul_of_nonneg_left (show x ≤ 1048576 / c from hle) (show 0 ≤ c by omega)
    omega

set_option maxHeartbeats 2000000 in
theorem sproduct_calls {ok : Nat → Prop} (v : Value) (s : List Int) (most : Int) (w : World) (hv : Slc w ok v s.length (ints s)) (hl : s.length ≤ 9223372036854775807) :
    Calls Tryz.prog 31 #[v, .int .i64 most] w fun e w' => e = .returned (.tuple #[.int .i64 (prodR s most).1, .int .i64 (prodR s most).2]) ∧ Below w.heap.size w w' := by
  have HV := Lib.hid hv
  obtain ⟨ao, cap, rfl, _⟩ := hv.opened
  clear hv
  by_cases h8 : 8 < s.length
  · have HP := Lib.hid (prodR_long (most := most) h8)
    go_enter Tryz.func31, Tryz.ntmps31
    go_wp2
    go_ret2
    exact ⟨ret_pr HP.out, Below.refl _ _⟩
  · have H8 := Lib.hid h8
    have hlen : s.length ≤ 8 := by omega
    have HC := Lib.hid (scontf_calls _ s w HV.out (by omega))
    have HC2 := Lib.hid (scontz_calls _ s w HV.out (by omega))
    clear h8 hl
    cases hn : anyN s
    · have HN := Lib.hid hn
      clear hn
      obtain ⟨z, hz⟩ : ∃ z, anyZ s = z := ⟨_, rfl⟩
      have HZ := Lib.hid hz
      clear hz
      go_enter Tryz.func31, Tryz.ntmps31
      go_wp2_with fail
      refine HC.out.mono ?_
      rintro e w1 ⟨rfl, rfl⟩
      rw [HN.out]
      go_wp2
      go_loopw [6, 16] (fun n i wr => ∃ k : Nat, k ≤ s.length ∧ i = .int .i64 k ∧ n = .int .i64 (nzp (s.take k)) ∧ wr = w ∧ nzp (s.take k) ≤ 1048576) (fun _ i _ => s.length - (intOf i).toNat)
      case atStart => exact ⟨0, by omega, rfl, rfl, rfl, by rw [List.take_zero, nzp_nil]; decide⟩
      case round =>
        obtain ⟨k, hk, rfl, rfl, rfl, hM⟩ := hrel
        have hP := nzp_pos (s.take k)
        obtain ⟨c, hc⟩ : ∃ c, c = nzp (s.take k) := ⟨_, rfl⟩
        have HNE := Lib.hid hc
        rw [← hc] at hM hP ⊢
        clear hc
        by_cases hlt : k < s.length
        · obtain ⟨b, off, cap', x, e1, hx, hcx⟩ := slc_at (Value.int .i64) (show Slc _ ok (.slice ao s.length cap) s.length (s.map (Value.int .i64)) from HV.out) k hlt
          obtain ⟨e1a, e1b⟩ : ao = some ⟨b, off, none⟩ ∧ cap = cap' := by cases e1; exact ⟨rfl, rfl⟩
          subst e1a
          have HX := Lib.hid hx
          have hnn := anyN_mem hx HN.out
          clear hx e1 e1b
          by_cases hq : 1048576 / c < x
          · have hq2 := (quo_big hP (by omega)).1 hq
            have hx0 : 0 < x := by
              apply Int.lt_of_not_ge
              intro h0
              have := Int.mul_le_mul_of_nonneg_left h0 (show 0 ≤ c by omega)
              omega
            have HP := Lib.hid (prodR_much (most := most) H8.out HN.out (by
              have h1 := nzp_take_le s (k + 1) (by omega)
              rw [nzp_take HX.out, if_pos hx0, ← HNE.out] at h1
              omega))
            clear hq2 hx0
            go_wp2
            go_ret2
            exact ⟨ret_pr HP.out, Below.refl _ _⟩
          · have hq2 : ¬ 1048576 < c * x := fun h => hq ((quo_big hP (by omega)).2 h)
            by_cases hx0 : x < 1
            · have HT := Lib.hid (show nzp (s.take (k + 1)) = c by rw [nzp_take HX.out, if_neg (by omega), ← HNE.out])
              clear hq2
              go_wp2
              go_roundw
              case rel => exact ⟨k + 1, by omega, by go_num, by rw [HT.out], by trivial, by rw [HT.out]; omega⟩
              case measure => simp [intOf]; omega
            · have HT := Lib.hid (show nzp (s.take (k + 1)) = c * x by rw [nzp_take HX.out, if_pos (by omega), ← HNE.out])
              have hm0 : 0 ≤ c * x := Int.mul_nonneg (by omega) (by omega)
              obtain ⟨m, hm⟩ : ∃ m, c * x = m := ⟨_, rfl⟩
              rw [hm] at HT hq2 hm0
              go_wp2
              go_roundw
              case rel => exact ⟨k + 1, by omega, by go_num, by rw [HT.out], by trivial, by rw [HT.out]; omega⟩
              case measure => simp [intOf]; omega
        · have hkl : k = s.length := by omega
          have HNF := Lib.hid (show nzp s = c by have := HNE.out; rw [hkl, List.take_length] at this; exact this.symm)
          have HP := Lib.hid (prodR_fit (most := most) H8.out HN.out (by rw [HNF.out]; omega))
          rw [HNF.out, HZ.out] at HP
          clear hkl
          go_wp2_with fail
          refine HC2.out.mono ?_
          rintro e w1 ⟨rfl, rfl⟩
          rw [HZ.out]
          cases z
          · by_cases hmost : most < c
            · go_wp2
              go_ret2
              exact ⟨ret_pr (HP.out.trans (by simp [hmost])), Below.refl _ _⟩
            · go_wp2
              go_ret2
              exact ⟨ret_pr (HP.out.trans (by simp [hmost])), Below.refl _ _⟩
          · by_cases hmost : most < 0
            · go_wp2
              go_ret2
              exact ⟨ret_pr (HP.out.trans (by simp [hmost])), Below.refl _ _⟩
            · go_wp2
              go_ret2
              exact ⟨ret_pr (HP.out.trans (by simp [hmost])), Below.refl _ _⟩
    · have HP := Lib.hid (prodR_neg (most := most) H8.out hn)
      have HN := Lib.hid hn
      clear hn
      go_enter Tryz.func31, Tryz.ntmps31
      go_wp2_with fail
      refine HC.out.mono ?_
      rintro e w1 ⟨rfl, rfl⟩
      rw [HN.out]
      go_wp2
      go_ret2
      exact ⟨ret_pr HP.out, Below.refl _ _⟩
end Go.Proofs.YtbfcdpabjailcaaGreatDoor

/- append of any slice to a row of one's own; slices.Grow, slices.Concat of lists of whole numbers. -/
namespace Go.Proofs.YtbfcdpabjailcaaGreatDoor
open Go.RowKit
set_option linter.unusedVariables false
set_option maxRecDepth 100000

section
variable {P : Program}
end
/-- v is a slice of slices, those of L. -/
def RowsC (w : World) (ok : Nat → Prop) (v : Value) (L : List (List Int)) : Prop :=
  ∃ ao cap, v = .slice ao L.length cap ∧ ∀ i (h : i < L.length), ∃ b off u, ao = some ⟨b, off, none⟩ ∧ w.cell? ⟨b, off + i, none⟩ = some u ∧ Slc w ok u L[i].length (ints L[i])
theorem RowsC.below {w w' : World} {ok : Nat → Prop} {v : Value} {L : List (List Int)} (h : RowsC w ok v L) (hb : Below w.heap.size w w') : RowsC w' ok v L := by
  obtain ⟨ao, cap, rfl, hc⟩ := h
  refine ⟨ao, cap, rfl, fun i hi => ?_⟩
  obtain ⟨b, off, u, e, h1, h2⟩ := hc i hi
  exact ⟨b, off, u, e, keep_below hb _ _ h1, h2.below hb⟩
theorem ints_one1 (l : List Int) : ∀ u ∈ ints l, u.oneCell' = true := by intro u hu; simp only [ints, List.mem_map] at hu; obtain ⟨z, _, rfl⟩ := hu; rfl
end Go.Proofs.YtbfcdpabjailcaaGreatDoor

/- Package shape, walked: Strides, At. -/
namespace Go.Proofs.YtbfcdpabjailcaaGreatDoor
open Go.RowKit
set_option linter.unusedVariables false
set_option maxRecDepth 100000

end Go.Proofs.YtbfcdpabjailcaaGreatDoor

/- Package shape, walked: At. -/
namespace Go.Proofs.YtbfcdpabjailcaaGreatDoor
open Go.RowKit
set_option linter.unusedVariables false
set_option maxRecDepth 100000

end Go.Proofs.YtbfcdpabjailcaaGreatDoor

/- Package shape, walked: Index, Next. -/
namespace Go.Proofs.YtbfcdpabjailcaaGreatDoor
open Go.RowKit
set_option linter.unusedVariables false
set_option maxRecDepth 100000

end Go.Proofs.YtbfcdpabjailcaaGreatDoor

/- Package shape, walked: Split, With, Without, Same. -/
namespace Go.Proofs.YtbfcdpabjailcaaGreatDoor
open Go.RowKit
set_option linter.unusedVariables false
set_option maxRecDepth 100000

set_option maxHeartbeats 1000000 in
/-- A clone is a row of the call's own. -/
theorem cloneOwn_calls {ok : Nat → Prop} (v : Value) (l : List Int) (w : World) (hv : Slc w ok v l.length (ints l)) (hm0 : l.length ≤ 2000000) :
    Calls Tryz.prog 47 #[v] w fun e w' => ∃ v, e = .returned v ∧ w'.ownsRow w.heap.size 3 1 v l.length (ints l) ∧ Below w.heap.size w w' := by
  obtain ⟨i0, hi, hz0, hz1, hz2⟩ := info_parts info_int
  obtain ⟨ao, cap, rfl, h1, h2, _, hcells⟩ := hv.opened
  have hm : l.length ≤ maxLen := by unfold maxLen; omega
  clear hv h1 h2
  have qT : ∀ (w : World) (a : Option Addr) (n c n' c' : Nat), (binOp .eql 22 (.slice a n c) (.slice none n' c')).run Tryz.prog w = .ok (.bool a.isNone) w := fun w a n c n' c' => Lib.run_eql_slice_nil w _ _ a n c n' c' Tryz.underlying22
  cases ao with
  | none =>
    have h0 : l = [] := by
      cases l with
      | nil => rfl
      | cons z zs => obtain ⟨b, off, e, _⟩ := hcells 0 (by simp [ints]); cases e
    subst h0
    go_enter Tryz.func47, Tryz.ntmps47
    go_wp2
    go_ret
    exact ⟨_, rfl, World.ownsRow_nil _ _ _ _, Below.refl _ _⟩
  | some ad =>
    have hc : ∀ j u, (ints l)[j]? = some u → w.cell? (ad.add j) = some u := by
      intro j u hj
      obtain ⟨hj', e⟩ := List.getElem?_eq_some_iff.1 hj
      obtain ⟨b, off, e2, _, hcell⟩ := hcells j hj'
      obtain rfl := Option.some.inj e2
      rw [← e, Go.WideShapes.add_plain]; exact hcell
    have HC := Lib.hid hc
    have hone : Hid (∀ u ∈ ints l, u.oneCell' = true) := Lib.hid (ints_one1 l)
    have hown := World.ownsRow_lit (base := w.heap.size) (e := 3) (size := 1) w #[] 0 (Nat.le_refl _) (by unfold maxLen; omega) rfl
    have HO := Lib.hid hown
    have HL := Lib.hid (show (ints l).length = l.length * 1 by rw [ints_len, Nat.mul_one])
    clear hc hown hcells
    go_enter Tryz.func47, Tryz.ntmps47
    go_wp2_with (at_builtin; refine wpList_append_own _ rfl _ _ 22 rfl w.heap.size 3 i0 (.int .i64 0) 1 8 Tryz.underlying22 hi hz0 hz1 hz2 rfl (by decide) _ _ _ rfl HO.out ad l.length cap (ints l) rfl HL.out ?c1 hone.out ?c3 ?c4 ?c5 ?_)
    case c1 => exact fun j u hj => keep_alloc _ _ _ _ (HC.out j u hj)
    case c4 => omega
    intro v' w1 hown' hgrow _
    have HO1 := Lib.hid hown'
    have HB1 := Lib.hid (grown_below ((Below.refl w.heap.size w).alloc (Nat.le_refl _) _) HO.out (Nat.le_refl _) (by simp) hgrow)
    clear hown' hgrow
    go_wp2
    go_ret
    exact ⟨_, rfl, by have := HO1.out; simpa using this, HB1.out⟩

end Go.Proofs.YtbfcdpabjailcaaGreatDoor
