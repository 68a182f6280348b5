/- Rows of cells as lists, and how an argument that is a slice of one-cell elements is opened. -/
import Derived.Test.YtbdhibcbpgjbmaaGreatDoorRows
import Derived.WalkKit
import Derived.ProofKit
import Derived.OpenShut
import Derived.SliceStrings
namespace Go.Proofs.YtbdhibcbpgjbmaaGreatDoor
set_option maxRecDepth 100000
open Go.ChangeShapes Go.WideShapes Go.RowKit

/-- v is a slice whose elements are xs, one cell each. -/
def Row (w : World) (v : Value) (xs : List Value) : Prop :=
  (∃ ao cap, xs = [] ∧ v = .slice ao 0 cap) ∨ ∃ b off cap : Nat, 0 < xs.length ∧ v = .slice (some ⟨b, off, none⟩) xs.length cap ∧ ∀ i (h : i < xs.length), w.cell? ⟨b, off + i, none⟩ = some xs[i]

/-- .. and its capacity is no less than its length. -/
def RowC (w : World) (v : Value) (xs : List Value) : Prop := Row w v xs ∧ ∃ ao cap, v = .slice ao xs.length cap ∧ xs.length ≤ cap ∧ cap ≤ maxLen
theorem Row.keep {w w' : World} {v : Value} {xs : List Value} (hk : ∀ a v, w.cell? a = some v → w'.cell? a = some v) (h : Row w v xs) : Row w' v xs := by
  rcases h with h | ⟨b, off, cap, h0, h1, h2⟩
  · exact .inl h
  · exact .inr ⟨b, off, cap, h0, h1, fun i hi => hk _ _ (h2 i hi)⟩

section
variable {H : Type} {enc : TypeId × Value → H} {P : Program} {w : World} {base : Nat} {spare : Nat → Bool} {held : Bool}

theorem open_row {t e : TypeId} {fuel : Nat} {cs : List Value} {x : DataW H × List MemPlace} (ht : P.underlying t = some (.slice e)) (hc : P.cellsOf e = 1) (Q : Value → Prop)
    (hQ : ∀ n cs y, DataW.trod enc P w base spare held n e cs = some y → ∃ u, cs = [u] ∧ Q u)
    (h : DataW.trod enc P w base spare held fuel t cs = some x) : ∃ v xs, cs = [v] ∧ RowC w v xs ∧ (∀ u ∈ xs, Q u) ∧ xs.length ≤ maxLen := by
  rcases DataW.trod_slice ht h with ⟨h0, _⟩ | ⟨a, len, cap, elems, rest, n, _, rfl, rfl, hb, hl, hm, hlen, hel, hsp, hns⟩
  · exact ⟨_, [], h0, ⟨.inl ⟨_, _, rfl, rfl⟩, _, _, rfl, by simp, by simp⟩, by simp, by simp⟩
  rcases Nat.eq_zero_or_pos len with h0 | hpos
  · subst h0
    exact ⟨_, [], rfl, ⟨.inl ⟨_, _, rfl, rfl⟩, _, _, rfl, by simp, hm⟩, by simp, by simp⟩
  have each : ∀ i, i < len → ∃ u, w.cell? (a.add i) = some u ∧ Q u := by
    intro i hi
    have h1 := hel i hi
    rw [hc, Nat.mul_one] at h1
    have hlt : i < elems.length := by omega
    rw [List.getElem?_eq_getElem hlt] at h1
    obtain ⟨cs', hcs, hy'⟩ := Option.bind_eq_some_iff.1 h1
    obtain ⟨u, rfl, hq⟩ := hQ _ _ _ hy'
    exact ⟨u, cell_of_cells?_one hcs, hq⟩
  obtain ⟨b, off, spot⟩ := a
  obtain ⟨u0, hu0, _⟩ := each 0 hpos
  have hspot : spot = none := by simpa [Addr.add] using World.cell?_spot hu0
  subst hspot
  have hlm : len ≤ maxLen := by omega
  refine ⟨_, (List.range len).map fun i => (w.cell? ⟨b, off + i, none⟩).getD undef, rfl, ⟨.inr ⟨b, off, cap, by simpa using hpos, by simp, fun i hi => ?_⟩, _, cap, by simp; rfl, ?_, hm⟩, fun u hu => ?_, by simpa using hlm⟩
  · have hi' : i < len := by simpa using hi
    obtain ⟨u, hu, _⟩ := each i hi'
    rw [Go.WideShapes.add_plain] at hu
    simp [hu]
  · simpa using hl
  · obtain ⟨i, hi, rfl⟩ := List.mem_map.1 hu
    obtain ⟨u, hu, hq⟩ := each i (by simpa using hi)
    rw [Go.WideShapes.add_plain] at hu
    simpa [hu] using hq

theorem open_row_arg {t e : TypeId} {v : Value} {d : DataW H} {p : List MemPlace} (ht : P.underlying t = some (.slice e)) (hc : P.cellsOf e = 1) (Q : Value → Prop) (hv : ∃ ao len cap, v = .slice ao len cap)
    (hQ : ∀ n cs y, DataW.trod enc P w base spare held n e cs = some y → ∃ u, cs = [u] ∧ Q u)
    (h : DataW.Trod enc P w base spare held t v d p) : ∃ xs, RowC w v xs ∧ (∀ u ∈ xs, Q u) ∧ xs.length ≤ maxLen := by
  obtain ⟨ao, len, cap, rfl⟩ := hv
  obtain ⟨fuel, hf⟩ := h
  obtain ⟨v, xs, h1, h2, h3, h4⟩ := open_row ht hc Q hQ hf
  have e : v = .slice ao len cap := by simpa [Value.cells] using h1.symm
  subst e
  exact ⟨xs, h2, h3, h4⟩
theorem elem_int {e : TypeId} {k : IntKind} (he : P.underlying e = some (.int k)) : ∀ n cs y, DataW.trod enc P w base spare held n e cs = some y → ∃ u, cs = [u] ∧ ∃ z, u = .int k z ∧ (Lit.int k z).wf = true :=
  fun _ _ _ h => by obtain ⟨z, h1, _, h3⟩ := DataW.trod_int he h; exact ⟨_, h1, z, rfl, h3⟩
theorem elem_bool {e : TypeId} (he : P.underlying e = some .bool) : ∀ n cs y, DataW.trod enc P w base spare held n e cs = some y → ∃ u, cs = [u] ∧ ∃ b, u = .bool b :=
  fun _ _ _ h => by obtain ⟨z, h1, _⟩ := DataW.trod_bool he h; exact ⟨_, h1, z, rfl⟩
theorem trod_float1 {e : TypeId} {k : FloatKind} {fuel : Nat} {cs : List Value} {x : DataW H × List MemPlace} (ht : P.underlying e = some (.float k)) (h : DataW.trod enc P w base spare held fuel e cs = some x) : ∃ b, cs = [.float k b] ∧ (Lit.float k b).wf = true := by
  cases fuel with
  | zero => simp [DataW.trod] at h
  | succ n =>
    unfold DataW.trod at h
    rw [ht] at h
    split at h <;> simp_all
theorem elem_float {e : TypeId} {k : FloatKind} (he : P.underlying e = some (.float k)) : ∀ n cs y, DataW.trod enc P w base spare held n e cs = some y → ∃ u, cs = [u] ∧ ∃ z, u = .float k z ∧ (Lit.float k z).wf = true :=
  fun _ _ _ h => by obtain ⟨z, h1, h3⟩ := trod_float1 he h; exact ⟨_, h1, z, rfl, h3⟩
theorem elem_string {e : TypeId} (he : P.underlying e = some .string) : ∀ n cs y, DataW.trod enc P w base spare held n e cs = some y → ∃ u, cs = [u] ∧ ∃ s : ByteArray, u = .string s ∧ s.size ≤ maxLen :=
  fun _ _ _ h => by obtain ⟨z, h1, _, h3⟩ := DataW.trod_string he h; exact ⟨_, h1, z, rfl, h3⟩
end

/-- A list of values of one make is the image of a list. -/
theorem list_of {α : Type} (f : α → Value) (R : α → Prop) : ∀ xs : List Value, (∀ u ∈ xs, ∃ z, u = f z ∧ R z) → ∃ zs : List α, xs = zs.map f ∧ ∀ z ∈ zs, R z
  | [], _ => ⟨[], rfl, by simp⟩
  | x :: xs, h => by
    obtain ⟨z, rfl, hz⟩ := h x List.mem_cons_self
    obtain ⟨zs, rfl, hzs⟩ := list_of f R xs (fun u hu => h u (List.mem_cons_of_mem _ hu))
    exact ⟨z :: zs, rfl, fun y hy => by
      rcases List.mem_cons.1 hy with rfl | hy
      · exact hz
      · exact hzs y hy⟩
/-- A row of whole numbers as an element. -/
theorem elem_rowInt {H : Type} {enc : TypeId × Value → H} {P : Program} {w : World} {base : Nat} {spare : Nat → Bool} {held : Bool} {t e : TypeId} {k : IntKind} (ht : P.underlying t = some (.slice e)) (hc : P.cellsOf e = 1) (he : P.underlying e = some (.int k)) :
    ∀ n cs y, DataW.trod enc P w base spare held n t cs = some y → ∃ u, cs = [u] ∧ ∃ zs : List Int, RowC w u (zs.map (Value.int k)) ∧ (∀ z ∈ zs, (Lit.int k z).wf = true) ∧ zs.length ≤ maxLen := by
  intro n cs y h
  obtain ⟨v, xs, h1, h2, h3, h4⟩ := open_row ht hc _ (elem_int he) h
  obtain ⟨zs, rfl, hz⟩ := list_of (Value.int k) (fun z => (Lit.int k z).wf = true) xs h3
  exact ⟨v, h1, zs, h2, hz, by simpa using h4⟩
end Go.Proofs.YtbdhibcbpgjbmaaGreatDoor
