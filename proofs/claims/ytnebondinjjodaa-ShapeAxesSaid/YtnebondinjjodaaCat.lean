/- append of any slice to a row of one's own; slices.Grow, slices.Concat of lists of whole numbers. -/
import Derived.Test.YtnebondinjjodaaBvB
import Derived.Test.YtnebondinjjodaaAp
import Derived.Lib.AppendZerosOnto
namespace Go.Proofs.Ytnebondinjjodaa
open Go.RowKit
set_option linter.unusedVariables false
set_option maxRecDepth 8000

section
variable {P : Program}
/-- A slice, nil or not, appended to a row of the call's own. -/
theorem run_append_any {w : World} (t ty e : TypeId) (i : TypeInfo) (z : Value) (bytes : Nat) (ht : P.underlying t = some (.slice e)) (hi : P.info? e = some i) (hz : i.zero = some z) (hsize : i.size = 1) (hby : i.bytes = bytes) (hzs : z.cells.size = 1)
    (base : Nat) (v : Value) (n : Nat) (xs : List Value) (hown : w.ownsRow base e 1 v n xs) {ok : Nat → Prop} (ao : Option Addr) (m c : Nat) (news : List Value) (hs : Slx w ok (.slice ao m c) m news) (h1 : ∀ u ∈ news, u.oneCell' = true)
    (h63 : n + m ≤ maxLen) (hbytes : (n + m) * bytes ≤ 140737488355328) (hbase : base ≤ w.heap.size) :
    ∃ v' w', (Builtin.append_ #[t, t] ty #[v, .slice ao m c]).run P w = .ok v' w' ∧ w'.ownsRow base e 1 v' (n + m) (xs ++ news) ∧ w.grownBy w' v.ownBlock := by
  obtain ⟨hl, ao', cap', e', hc⟩ := hs
  cases e'
  cases ao with
  | none =>
    have hm : news = [] := by
      cases news with
      | nil => rfl
      | cons x xs => obtain ⟨b, off, e2, _⟩ := hc 0 (by simp); cases e2
    subst hm
    have hm0 : m = 0 := by simpa using hl.symm
    subst hm0
    refine ⟨v, w, ?_, by simpa using hown, ⟨rfl, rfl, rfl, Nat.le_refl _, fun _ _ _ => rfl⟩⟩
    have hv : ∃ vo vc, v = .slice vo n vc ∧ n ≤ vc := by
      rcases hown.2 with ⟨rfl, rfl⟩ | ⟨g, cap, cur, rfl, _, _, h, _⟩
      · exact ⟨_, _, rfl, Nat.le_refl _⟩
      · exact ⟨_, _, rfl, h⟩
    obtain ⟨vo, vc, rfl, hle⟩ := hv
    simp [Builtin.append_, run_underlying ht, sizeOf, typeInfo, hi, Builtin.lenOf, Builtin.firstCells, storeCells, hle]
    cases vo <;> rfl
  | some ad =>
    have hn : ∀ j u, news[j]? = some u → w.cell? (ad.add j) = some u := by
      intro j u hj
      obtain ⟨hj', e⟩ := List.getElem?_eq_some_iff.1 hj
      obtain ⟨b, off, e2, _, hcell⟩ := hc j hj'
      obtain rfl := Option.some.inj e2
      rw [← e, Go.WideShapes.add_plain]; exact hcell
    obtain ⟨v', w', hr, h2, h3, _⟩ := run_append_own (P := P) w base t ty e i z 1 bytes ht hi hz hsize hby hzs (by decide) _ n xs hown ad m c news (by rw [hl, Nat.mul_one]) hn h1 h63 hbytes hbase
    exact ⟨v', w', hr, h2, h3⟩
end
/-- .. as one step. -/
theorem wpList_append_any {P : Program} (w : World) {ops : Array Oper} {rest : List Oper} {o : Oper} {a : Act} {Q : Exit → Act → World → Prop} (hgd : o.guard = none) (s x : Operand) (t : TypeId) (ho : o.op = .call { callee := .builtin .append, args := #[s, x], argTypes := #[t, t] })
    (base : Nat) (e : TypeId) (i : TypeInfo) (z : Value) (bytes : Nat) (ht : P.underlying t = some (.slice e)) (hi : P.info? e = some i) (hz : i.zero = some z) (hsize : i.size = 1) (hby : i.bytes = bytes) (hzs : z.cells.size = 1)
    (v : Value) (n : Nat) (xs : List Value) (hsv : a.eval s = v) (hown : w.ownsRow base e 1 v n xs) {ok : Nat → Prop} (ao : Option Addr) (m c : Nat) (news : List Value) (hx : a.eval x = .slice ao m c) (hs : Slx w ok (.slice ao m c) m news) (h1 : ∀ u ∈ news, u.oneCell' = true)
    (h63 : n + m ≤ maxLen) (hbytes : (n + m) * bytes ≤ 140737488355328) (hbase : base ≤ w.heap.size)
    (h : ∀ v' w', w'.ownsRow base e 1 v' (n + m) (xs ++ news) → w.grownBy w' v.ownBlock → wpList P ops Q rest (a.put o.dst v') w') : wpList P ops Q (o :: rest) a w :=
  wpList_plain hgd fun _ hK => by
    obtain ⟨v', w', hr, h2, h3⟩ := run_append_any (P := P) t o.type e i z bytes ht hi hz hsize hby hzs base v n xs hown ao m c news hs h1 h63 hbytes hbase
    have hk := hK _ _ (h v' w' h2 h3)
    suffices hg : Oper.upon P o a _ _ (Result.ok (Next.value v') w') by simpa [Oper.wp, execOp, ho, resolve, invoke, builtin, hsv, hx, hr] using hg
    exact hk

set_option maxHeartbeats 2000000 in
/-- Room for so many, from nothing. -/
theorem sgrow0_calls (n : Nat) (hn : n ≤ 2000000) (w : World) :
    Calls Try.prog 34 #[.slice none 0 0, .int .i64 (n : Int)] w fun e w' => ∃ v, e = .returned v ∧ w'.ownsRow w.heap.size 3 1 v 0 [] ∧ Below w.heap.size w w' := by
  obtain ⟨i0, hi, hz0, hz1, hz2⟩ := info_parts info_int
  by_cases h0 : n = 0
  · subst h0
    go_enter Try.func34, Try.ntmps34
    go_wp2
    go_ret
    exact ⟨_, rfl, World.ownsRow_nil _ _ _ _, Below.refl _ _⟩
  · have hpos : 0 < n := by omega
    have hold : (Builtin.firstCells i0.size 0 (.slice none 0 0)).run Try.prog w.drew = .ok (#[] : Array Value) w.drew := by simp [Builtin.firstCells]
    have hrz := Lib.run_append_grow_zeros w 22 3 22 3 i0 (.int .i64 0) .i64 .i64 Try.underlying22 Try.underlying3 hi hz0 none 0 0 [] hold n hpos (by omega) (by omega) (by omega) (by rw [hz2]; omega)
      (by rw [Nat.zero_add]; exact growslice_fits hpos (by rw [hz2]; omega))
    rw [Nat.zero_add] at hrz
    have hge := grownCap_ge w n 0 3
    have hcm := grownCap_le_maxLen w n 0 3 (by unfold maxLen; omega)
    obtain ⟨G, hG⟩ : ∃ G, G = grownCap w n 0 3 := ⟨_, rfl⟩
    rw [← hG] at hrz hge hcm
    clear hold hG
    go_enter Try.func34, Try.ntmps34
    go_wp2_with (at_builtin; refine Lib.wpList_append_run _ rfl _ _ _ _ rfl _ _ rfl rfl _ _ hrz ?_)
    go_ret
    refine ⟨.slice (some ⟨w.heap.size, 0, none⟩) 0 G, rfl, ?_, ?_⟩
    · have h := World.ownsRow_made (base := w.heap.size) (e := 3) (size := 1) w (Builtin.zeroCells #[Value.int IntKind.i64 0] n ++ Builtin.zeroCells #[Value.int IntKind.i64 0] (G - n)) G (Nat.le_refl _) hcm (by
        rw [Array.size_append, size_zeroCells, size_zeroCells]; simp; omega)
      exact h
    · exact Below.drewN' ((Below.refl w.heap.size w).alloc (Nat.le_refl _) _) 1
/-- v is a slice of slices, those of L. -/
def RowsC (w : World) (ok : Nat → Prop) (v : Value) (L : List (List Int)) : Prop :=
  ∃ ao cap, v = .slice ao L.length cap ∧ ∀ i (h : i < L.length), ∃ b off u, ao = some ⟨b, off, none⟩ ∧ w.cell? ⟨b, off + i, none⟩ = some u ∧ Slc w ok u L[i].length (ints L[i])
theorem RowsC.below {w w' : World} {ok : Nat → Prop} {v : Value} {L : List (List Int)} (h : RowsC w ok v L) (hb : Below w.heap.size w w') : RowsC w' ok v L := by
  obtain ⟨ao, cap, rfl, hc⟩ := h
  refine ⟨ao, cap, rfl, fun i hi => ?_⟩
  obtain ⟨b, off, u, e, h1, h2⟩ := hc i hi
  exact ⟨b, off, u, e, keep_below hb _ _ h1, h2.below hb⟩
theorem ints_one1 (l : List Int) : ∀ u ∈ ints l, u.oneCell' = true := by intro u hu; simp only [ints, List.mem_map] at hu; obtain ⟨z, _, rfl⟩ := hu; rfl
theorem flat_take {L : List (List Int)} {k : Nat} {l : List Int} (h : L[k]? = some l) : (L.take (k + 1)).flatten = (L.take k).flatten ++ l := by
  obtain ⟨hk, e⟩ := List.getElem?_eq_some_iff.1 h
  rw [List.take_succ_eq_append_getElem hk, List.flatten_append, e]; simp
theorem flat_len {L : List (List Int)} {k : Nat} {l : List Int} (h : L[k]? = some l) : (L.take (k + 1)).flatten.length = (L.take k).flatten.length + l.length := by rw [flat_take h, List.length_append]
theorem flat_le (L : List (List Int)) : ∀ d k, k + d = L.length → (L.take k).flatten.length ≤ L.flatten.length := by
  intro d
  induction d with
  | zero => intro k h; rw [List.take_of_length_le (by omega)]; exact Nat.le_refl _
  | succ d ih =>
    intro k h
    have := ih (k + 1) (by omega)
    rw [flat_len (List.getElem?_eq_getElem (show k < L.length by omega))] at this
    omega

set_option maxHeartbeats 4000000 in
/-- Lists one behind the other. -/
theorem sconcat_calls {ok : Nat → Prop} (v : Value) (L : List (List Int)) (w : World) (hv : RowsC w ok v L) (hl : L.length ≤ 2000000) (hm : L.flatten.length ≤ 2000000) :
    Calls Try.prog 30 #[v] w fun e w' => ∃ z, e = .returned z ∧ Slc w' (fun b => w.heap.size ≤ b) z L.flatten.length (ints L.flatten) ∧ Below w.heap.size w w' := by
  obtain ⟨i0, hi, hz0, hz1, hz2⟩ := info_parts info_int
  have HV := Lib.hid hv
  obtain ⟨ao, cap, rfl, _⟩ := hv
  have HM := Lib.hid (show ∀ k, k ≤ L.length → (L.take k).flatten.length ≤ 2000000 from fun k hk => Nat.le_trans (flat_le L (L.length - k) k (by omega)) hm)
  have HF := Lib.hid hm
  clear hm
  go_enter Try.func30, Try.ntmps30
  go_wp2
  go_loopw [3, 11] (fun a i wr => ∃ k : Nat, k ≤ L.length ∧ i = .int .i64 (k : Int) ∧ a = .int .i64 (((L.take k).flatten.length : Nat) : Int) ∧ wr = w) (fun _ i _ => L.length - (intOf i).toNat)
  case atStart => exact ⟨0, by omega, rfl, rfl, rfl⟩
  case round =>
    obtain ⟨k, hk, rfl, rfl, hwr⟩ := hrel
    have hwr := hwr.symm
    subst hwr
    obtain ⟨n, hn⟩ : ∃ n, n = (L.take k).flatten.length := ⟨_, rfl⟩
    have HN := Lib.hid hn
    have hn2 : n ≤ 2000000 := by rw [hn]; exact HM.out k hk
    rw [← hn]
    clear hn
    by_cases hlt : k < L.length
    · obtain ⟨ao', cap', e1, hc⟩ := HV.out
      obtain ⟨b, off, u, e2, hcx, hs⟩ := hc k hlt
      obtain ⟨rfl, e1b⟩ : ao = some ⟨b, off, none⟩ ∧ cap = cap' := by cases e1; exact ⟨e2, rfl⟩
      obtain ⟨ao3, cap3, hu, _⟩ := hs.opened
      obtain ⟨l, hl2⟩ : ∃ l, L[k] = l := ⟨_, rfl⟩
      rw [hl2] at hu
      subst hu
      have HL := Lib.hid (flat_len (show L[k]? = some l by rw [List.getElem?_eq_getElem hlt, hl2]))
      rw [← HN.out] at HL
      have hm2 := HM.out (k + 1) (by omega)
      rw [HL.out] at hm2
      clear hc hs e1 e2 e1b hl2
      go_wp2
      go_roundw
      case rel => exact ⟨k + 1, by omega, by go_num, by rw [HL.out]; go_num, by trivial⟩
      case measure => simp [intOf]; omega
    · have hkl : k = L.length := by omega
      have HNF := Lib.hid (show L.flatten.length = n by have := HN.out; rw [hkl, List.take_length] at this; exact this.symm)
      clear hkl
      go_wp2_with fail
      refine (sgrow0_calls n hn2 _).mono ?_
      rintro e W1 ⟨vg, rfl, hown, hB⟩
      have HO := Lib.hid hown
      have HV1 := Lib.hid (HV.out.below hB)
      have HB := Lib.hid hB
      clear hown hB
      go_wp2
      go_loopw [6, 27] (fun a i wq => ∃ j : Nat, j ≤ L.length ∧ i = .int .i64 (j : Int) ∧ wq.ownsRow w.heap.size 3 1 a (L.take j).flatten.length (ints (L.take j).flatten) ∧ Below w.heap.size w wq) (fun _ i _ => L.length - (intOf i).toNat)
      case atStart => exact ⟨0, by omega, rfl, HO.out, HB.out⟩
      case round =>
        obtain ⟨j, hj, rfl, hown, hB⟩ := hrel
        obtain ⟨m, hm⟩ : ∃ m, m = (L.take j).flatten.length := ⟨_, rfl⟩
        have HMJ := Lib.hid hm
        rw [← hm] at hown
        have HOW := Lib.hid hown
        have HBW := Lib.hid hB
        have hsz := hB.size
        clear hm hown
        by_cases hlt2 : j < L.length
        · obtain ⟨ao', cap', e1, hc⟩ := HV.out.below hB
          obtain ⟨b, off, u, e2, hcx, hs⟩ := hc j hlt2
          obtain ⟨rfl, e1b⟩ : ao = some ⟨b, off, none⟩ ∧ cap = cap' := by cases e1; exact ⟨e2, rfl⟩
          have hs2 := hs
          obtain ⟨ao3, cap3, hu, _⟩ := hs.opened
          obtain ⟨l, hl2⟩ : ∃ l, L[j] = l := ⟨_, rfl⟩
          rw [hl2] at hu hs2
          subst hu
          have HS := Lib.hid hs2
          have hlj : L[j]? = some l := by rw [List.getElem?_eq_getElem hlt2, hl2]
          have HL := Lib.hid (flat_len hlj)
          have HFT := Lib.hid (flat_take hlj)
          rw [← HMJ.out] at HL
          have hm2 := HM.out (j + 1) (by omega)
          rw [HL.out] at hm2
          clear hc hs hs2 e1 e2 e1b hl2 hB hlj
          go_wp2_with (at_builtin; refine wpList_append_any _ rfl _ _ 22 rfl w.heap.size 3 i0 (.int .i64 0) 8 Try.underlying22 hi hz0 hz1 hz2 rfl _ m (ints (L.take j).flatten) rfl HOW.out ao3 l.length cap3 (ints l) rfl HS.out.1 (ints_one1 l) ?c3 ?c4 ?c5 ?_)
          case c3 => unfold maxLen; omega
          case c4 => omega
          case c5 => exact hsz
          intro v' w3 hown' hgrow
          have HO3 := Lib.hid hown'
          have HB3 := Lib.hid (grown_below HBW.out HOW.out (Nat.le_refl _) hsz hgrow)
          clear hown' hgrow
          go_wp2
          go_roundw
          case rel =>
            refine ⟨j + 1, by omega, by go_num, ?_, HB3.out⟩
            have := HO3.out
            rw [HL.out, HFT.out]
            simpa [ints] using this
          case measure => simp [intOf]; omega
        · have hkl : j = L.length := by omega
          have HK := Lib.hid hkl
          clear hkl hB
          go_wp2
          go_ret
          refine ⟨_, rfl, ?_, HBW.out⟩
          have := Slc.owned HOW.out
          rwa [HMJ.out, HK.out, List.take_length] at this
end Go.Proofs.Ytnebondinjjodaa
