/- append of any slice to a row of one's own; slices.Grow, slices.Concat of lists of whole numbers. -/
import Derived.Test.YtbdhibcbpgjbmaaGreatDoorBvB
import Derived.Test.YtbdhibcbpgjbmaaGreatDoorAp
import Derived.Lib.AppendZerosOnto
namespace Go.Proofs.YtbdhibcbpgjbmaaGreatDoor
open Go.RowKit
set_option linter.unusedVariables false
set_option maxRecDepth 100000

section
variable {P : Program}
/-- A slice, nil or not, appended to a row of the call's own. -/
theorem run_append_any {w : World} (t ty e : TypeId) (i : TypeInfo) (z : Value) (bytes : Nat) (ht : P.underlying t = some (.slice e)) (hi : P.info? e = some i) (hz : i.zero = some z) (hsize : i.size = 1) (hby : i.bytes = bytes) (hzs : z.cells.size = 1)
  (base : Nat) (v : Value) (n : Nat) (xs : List Value) (hown : w.ownsRow base e 1 v n xs) {ok : Nat → Prop} (ao : Option Addr) (m c : Nat) (news : List Value) (hs : Slx w ok (.slice ao m c) m news) (h1 : ∀ u ∈ news, u.oneCell' = true)
  (h63 : n + m ≤ maxLen) (hbytes : (n + m) * bytes ≤ 140737488355328) (hbase : base ≤ w.heap.size) :
  ∃ v' w', (Builtin.append_ #[t, t] ty #[v, .slice ao m c]).run P w = .ok v' w' ∧ w'.ownsRow base e 1 v' (n + m) (xs ++ news) ∧ w.grownBy w' v.ownBlock := by
 obtain ⟨hl, ao', cap', e', hc⟩ := hs
 cases e'
 cases ao with
 | none =>
  have hm : news = [] := by
   cases news with
   | nil => rfl
   | cons x xs => obtain ⟨b, off, e2, _⟩ := hc 0 (by simp); cases e2
  subst hm
  have hm0 : m = 0 := by simpa using hl.symm
  subst hm0
  refine ⟨v, w, ?_, by simpa using hown, ⟨rfl, rfl, rfl, Nat.le_refl _, fun _ _ _ => rfl⟩⟩
  have hv : ∃ vo vc, v = .slice vo n vc ∧ n ≤ vc := by
   rcases hown.2 with ⟨rfl, rfl⟩ | ⟨g, cap, cur, rfl, _, _, h, _⟩
   ·exact ⟨_, _, rfl, Nat.le_refl _⟩
   ·exact ⟨_, _, rfl, h⟩
  obtain ⟨vo, vc, rfl, hle⟩ := hv
  simp [Builtin.append_, run_underlying ht, sizeOf, typeInfo, hi, Builtin.lenOf, Builtin.firstCells, storeCells, hle]
  cases vo <;> rfl
 | some ad =>
  have hn : ∀ j u, news[j]? = some u → w.cell? (ad.add j) = some u := by
   intro j u hj
   obtain ⟨hj', e⟩ := List.getElem?_eq_some_iff.1 hj
   obtain ⟨b, off, e2, _, hcell⟩ := hc j hj'
   obtain rfl := Option.some.inj e2
   rw [← e, Go.WideShapes.add_plain]; exact hcell
  obtain ⟨v', w', hr, h2, h3, _⟩ := run_append_own (P := P) w base t ty e i z 1 bytes ht hi hz hsize hby hzs (by decide) _ n xs hown ad m c news (by rw [hl, Nat.mul_one]) hn h1 h63 hbytes hbase
  exact ⟨v', w', hr, h2, h3⟩
end
/-- .. as one step. -/
theorem wpList_append_any {P : Program} (w : World) {ops : Array Oper} {rest : List Oper} {o : Oper} {a : Act} {Q : Exit → Act → World → Prop} (hgd : o.guard = none) (s x : Operand) (t : TypeId) (ho : o.op = .call { callee := .builtin .append, args := #[s, x], argTypes := #[t, t] })
  (base : Nat) (e : TypeId) (i : TypeInfo) (z : Value) (bytes : Nat) (ht : P.underlying t = some (.slice e)) (hi : P.info? e = some i) (hz : i.zero = some z) (hsize : i.size = 1) (hby : i.bytes = bytes) (hzs : z.cells.size = 1)
  (v : Value) (n : Nat) (xs : List Value) (hsv : a.eval s = v) (hown : w.ownsRow base e 1 v n xs) {ok : Nat → Prop} (ao : Option Addr) (m c : Nat) (news : List Value) (hx : a.eval x = .slice ao m c) (hs : Slx w ok (.slice ao m c) m news) (h1 : ∀ u ∈ news, u.oneCell' = true)
  (h63 : n + m ≤ maxLen) (hbytes : (n + m) * bytes ≤ 140737488355328) (hbase : base ≤ w.heap.size)
  (h : ∀ v' w', w'.ownsRow base e 1 v' (n + m) (xs ++ news) → w.grownBy w' v.ownBlock → wpList P ops Q rest (a.put o.dst v') w') : wpList P ops Q (o :: rest) a w :=
 wpList_plain hgd fun _ hK => by
  obtain ⟨v', w', hr, h2, h3⟩ := run_append_any (P := P) t o.type e i z bytes ht hi hz hsize hby hzs base v n xs hown ao m c news hs h1 h63 hbytes hbase
  have hk := hK _ _ (h v' w' h2 h3)
  suffices hg : Oper.upon P o a _ _ (Result.ok (Next.value v') w') by simpa [Oper.wp, execOp, ho, resolve, invoke, builtin, hsv, hx, hr] using hg
  exact hk

/-- v is a slice of slices, those of L. -/
def RowsC (w : World) (ok : Nat → Prop) (v : Value) (L : List (List Int)) : Prop :=
 ∃ ao cap, v = .slice ao L.length cap ∧ ∀ i (h : i < L.length), ∃ b off u, ao = some ⟨b, off, none⟩ ∧ w.cell? ⟨b, off + i, none⟩ = some u ∧ Slc w ok u L[i].length (ints L[i])
theorem RowsC.below {w w' : World} {ok : Nat → Prop} {v : Value} {L : List (List Int)} (h : RowsC w ok v L) (hb : Below w.heap.size w w') : RowsC w' ok v L := by
 obtain ⟨ao, cap, rfl, hc⟩ := h
 refine ⟨ao, cap, rfl, fun i hi => ?_⟩
 obtain ⟨b, off, u, e, h1, h2⟩ := hc i hi
 exact ⟨b, off, u, e, keep_below hb _ _ h1, h2.below hb⟩
theorem ints_one1 (l : List Int) : ∀ u ∈ ints l, u.oneCell' = true := by intro u hu; simp only [ints, List.mem_map] at hu; obtain ⟨z, _, rfl⟩ := hu; rfl
theorem flat_take {L : List (List Int)} {k : Nat} {l : List Int} (h : L[k]? = some l) : (L.take (k + 1)).flatten = (L.take k).flatten ++ l := by
 obtain ⟨hk, e⟩ := List.getElem?_eq_some_iff.1 h
 rw [List.take_succ_eq_append_getElem hk, List.flatten_append, e]; simp
theorem flat_len {L : List (List Int)} {k : Nat} {l : List Int} (h : L[k]? = some l) : (L.take (k + 1)).flatten.length = (L.take k).flatten.length + l.length := by rw [flat_take h, List.length_append]
theorem flat_le (L : List (List Int)) : ∀ d k, k + d = L.length → (L.take k).flatten.length ≤ L.flatten.length := by
 intro d
 induction d with
 | zero => intro k h; rw [List.take_of_length_le (by omega)]; exact Nat.le_refl _
 | succ d ih =>
  intro k h
  have := ih (k + 1) (by omega)
  rw [flat_len (List.getElem?_eq_getElem (show k < L.length by omega))] at this
  omega

end Go.Proofs.YtbdhibcbpgjbmaaGreatDoor
