/- An argument that is a plain array, opened. -/
import Derived.Test.YtbdhibcbpgjbmaaGreatDoorVaA
import Derived.OpenShut
namespace Go.Proofs.YtbdhibcbpgjbmaaGreatDoor
open Go.RowKit Go.ChangeShapes Go.WideShapes
set_option linter.unusedVariables false
set_option maxRecDepth 100000

section
variable {H : Type} {enc : TypeId × Value → H} {w : World} {base : Nat} {spare : Nat → Bool} {held : Bool}

/-- A slice of elements of c cells. -/
theorem cells_slice {P : Program} {t e : TypeId} {fuel c : Nat} {cs : List Value} {x : DataW H × List MemPlace} (ht : P.underlying t = some (.slice e)) (hc : P.cellsOf e = c) (hpos : 0 < c)
  (h : DataW.trod enc P w base spare held fuel t cs = some x) :
  ∃ ao len cap n, n < fuel ∧ cs = [.slice ao len cap] ∧ len ≤ cap ∧ cap ≤ maxLen ∧
   ∀ i, i < len → ∃ b off cs' y, ao = some ⟨b, off, none⟩ ∧ cs'.length = c ∧ (∀ j, j < c → w.cell? ⟨b, off + i * c + j, none⟩ = cs'[j]?) ∧ DataW.trod enc P w base spare held n e cs' = some y := by
 cases fuel with
 | zero => simp [DataW.trod] at h
 | succ m =>
  rcases DataW.trod_slice ht h with ⟨h0, _⟩ | ⟨a, len, cap, elems, rest, n, hn, rfl, rfl, hb, hl, hm, hlen, hel, hsp, hns⟩
  ·exact ⟨none, 0, 0, m, by omega, h0, Nat.le_refl _, by unfold maxLen; omega, fun i hi => by omega⟩
  have each : ∀ i, i < len → ∃ cs' y, cs'.length = c ∧ (∀ j, j < c → w.cell? ((a.add (i * c)).add j) = cs'[j]?) ∧ DataW.trod enc P w base spare held n e cs' = some y := by
   intro i hi
   have h1 := hel i hi
   rw [hc] at h1
   have hlt : i < elems.length := by omega
   rw [List.getElem?_eq_getElem hlt] at h1
   obtain ⟨cs', hcs, hy'⟩ := Option.bind_eq_some_iff.1 h1
   obtain ⟨_, hcl, hat⟩ := World.cells?_some hcs
   exact ⟨cs', _, hcl, hat, hy'⟩
  refine ⟨some a, len, cap, n, by omega, rfl, hl, hm, fun i hi => ?_⟩
  obtain ⟨b, off, spot⟩ := a
  have hspot : spot = none := by
   obtain ⟨cs', y, hcl, hat, _⟩ := each 0 (by omega)
   have h0 := hat 0 hpos
   rw [List.getElem?_eq_getElem (by omega)] at h0
   simpa [Addr.add] using World.cell?_spot h0
  subst hspot
  obtain ⟨cs', y, hcl, hat, hy⟩ := each i hi
  refine ⟨b, off, cs', y, rfl, hcl, fun j hj => ?_, hy⟩
  have := hat j hj
  simpa [Go.WideShapes.add_plain, Nat.add_assoc] using this

theorem cint_of {t : TypeId} {k : IntKind} {fuel : Nat} {cs : List Value} {P : Program} {y : DataW H × List MemPlace} (ht : P.underlying t = some (.int k)) (h : DataW.trod enc P w base spare held fuel t cs = some y) : ∃ z, cs = [.int k z] := by
 obtain ⟨u, rfl, z, rfl, _⟩ := elem_int ht _ _ _ h
 exact ⟨z, rfl⟩
theorem cfloat_of {t : TypeId} {k : FloatKind} {fuel : Nat} {cs : List Value} {P : Program} {y : DataW H × List MemPlace} (ht : P.underlying t = some (.float k)) (h : DataW.trod enc P w base spare held fuel t cs = some y) : ∃ z, cs = [.float k z] ∧ (Lit.float k z).wf = true := by
 obtain ⟨u, rfl, z, rfl, hz⟩ := elem_float ht _ _ _ h
 exact ⟨z, rfl, hz⟩
theorem ints_of {t e : TypeId} {fuel : Nat} {cs : List Value} {P : Program} {y : DataW H × List MemPlace} (ht : P.underlying t = some (.slice e)) (hc : P.cellsOf e = 1) (he : P.underlying e = some (.int .i64)) (h : DataW.trod enc P w base spare held fuel t cs = some y) :
  ∃ v l, cs = [v] ∧ Slc w (fun _ => True) v (l : List Int).length (ints l) := by
 obtain ⟨v, xs, rfl, hr, hq, hl⟩ := open_row ht hc (fun u => ∃ z, u = .int .i64 z ∧ (Lit.int .i64 z).wf = true) (elem_int he) h
 obtain ⟨zs, rfl, _⟩ := list_of (Value.int .i64) (fun z => (Lit.int .i64 z).wf = true) xs hq
 refine ⟨v, zs, rfl, ?_⟩
 have := hr.slc
 simpa [ints] using this

theorem listAll {α : Type} (n : Nat) (q : Nat → α → Prop) (h : ∀ i, i < n → ∃ x, q i x) : ∃ l : List α, l.length = n ∧ ∀ i x, l[i]? = some x → q i x := by
 induction n with
 | zero => exact ⟨[], rfl, fun i x h => by simp at h⟩
 | succ n ih =>
  obtain ⟨l, hl, hq⟩ := ih (fun i hi => h i (by omega))
  obtain ⟨x, hx⟩ := h n (by omega)
  refine ⟨l ++ [x], by simp [hl], fun i y hy => ?_⟩
  by_cases hi : i < l.length
  ·rw [List.getElem?_append_left hi] at hy; exact hq i y hy
  ·obtain ⟨h1, _⟩ := List.getElem?_eq_some_iff.1 hy
   have : i = n := by simp at h1; omega
   subst this
   rw [List.getElem?_append_right (by omega), hl] at hy
   simp at hy
   exact hy ▸ hx

theorem und_plain : ∃ f0 f1 f2 : Field, Tryz.prog.underlying 25 = some (.struct #[f0, f1, f2]) ∧ f0.type = 22 ∧ f1.type = 23 ∧ f2.type = 3 ∧ f0.offset = 0 ∧ f1.offset = 1 ∧ f2.offset = 2 := ⟨_, _, _, Tryz.underlying25, rfl, rfl, rfl, rfl, rfl, rfl⟩
theorem und_item : ∃ f0 f1 f2 f3 : Field, Tryz.prog.underlying 34 = some (.struct #[f0, f1, f2, f3]) ∧ f0.type = 3 ∧ f1.type = 31 ∧ f2.type = 21 ∧ f3.type = 32 ∧ f0.offset = 0 ∧ f1.offset = 1 ∧ f2.offset = 2 ∧ f3.offset = 3 := ⟨_, _, _, _, Tryz.underlying34, rfl, rfl, rfl, rfl, rfl, rfl, rfl, rfl⟩
theorem co_plain : Tryz.prog.cellsOf 25 = 3 := by kernel_rfl
theorem co_item : Tryz.prog.cellsOf 34 = 4 := by kernel_rfl
theorem co_slInt : Tryz.prog.cellsOf 22 = 1 := by kernel_rfl
theorem co_slItem : Tryz.prog.cellsOf 23 = 1 := by kernel_rfl
theorem co_slPlain : Tryz.prog.cellsOf 32 = 1 := by kernel_rfl
theorem co_int : Tryz.prog.cellsOf 3 = 1 := by kernel_rfl
theorem co_f64 : Tryz.prog.cellsOf 31 = 1 := by kernel_rfl
theorem co_i32 : Tryz.prog.cellsOf 21 = 1 := by kernel_rfl

/-- Some depth for all of finitely many. -/
theorem lo_all {n : Nat} (q : Nat → Nat → Prop) (mono : ∀ i a b, a ≤ b → q i a → q i b) (h : ∀ i, i < n → ∃ d, q i d) : ∃ d, ∀ i, i < n → q i d := Go.Deep.fuel_lt mono h

theorem lt_of_wf {x : Nat} (h : (Lit.float .f64 x).wf = true) : x < 18446744073709551616 := by
 simpa [Lit.wf] using h
theorem plain_of (fuel : Nat) : ∀ (cs : List Value) (y : DataW H × List MemPlace), DataW.trod enc Tryz.prog w base spare held fuel 25 cs = some y →
  ∃ a b c p d, cs = [a, b, c] ∧ IsP w (fun _ => True) (.agg #[a, b, c]) p ∧ lo d p := by
 induction fuel using Nat.strongRecOn with
 | ind fuel ih =>
  intro cs y h
  obtain ⟨f0, f1, f2, hu, t0, t1, t2, o0, o1, o2⟩ := und_plain
  obtain ⟨xs, n, rfl, _, hl, hxl, hf⟩ := DataW.trod_struct hu h
  rw [co_plain] at hl
  match cs, hl with
  | [a, b, c], _ =>
   have g0 := hf 0 f0 rfl
   have g1 := hf 1 f1 rfl
   have g2 := hf 2 f2 rfl
   rw [t0, o0, co_slInt] at g0
   rw [t1, o1, co_slItem] at g1
   rw [t2, o2, co_int] at g2
   simp only [List.drop, List.take] at g0 g1 g2
   match xs, hxl with
   | [y0, y1, y2], _ =>
    simp only [List.getElem?_cons_zero, List.getElem?_cons_succ] at g0 g1 g2
    obtain ⟨v, s, e0, hs⟩ := ints_of Tryz.underlying22 co_int Tryz.underlying3 g0
    obtain rfl : a = v := by simpa using e0
    obtain ⟨z, e2⟩ := cint_of Tryz.underlying3 g2
    cases e2
    obtain ⟨ao, len, cap, n1, hn1, e1, hl1, hl2, hitem⟩ := cells_slice Tryz.underlying23 co_item (by omega) g1
    cases e1
    -- each item
    have one : ∀ i, i < len → ∃ x : PI × (Value × Nat), (∃ b off, ao = some ⟨b, off, none⟩ ∧ w.cell? ⟨b, off + i * 4, none⟩ = some (.int .i64 x.1.1) ∧ w.cell? ⟨b, off + i * 4 + 1, none⟩ = some (.float .f64 x.1.2.1) ∧
      w.cell? ⟨b, off + i * 4 + 2, none⟩ = some (.int .i32 x.1.2.2.1) ∧ w.cell? ⟨b, off + i * 4 + 3, none⟩ = some x.2.1) ∧ IsB w (fun _ => True) x.2.1 x.1.2.2.2 ∧ x.1.2.1 < 18446744073709551616 ∧ ∀ q ∈ x.1.2.2.2, lo x.2.2 q := by
     intro i hi
     obtain ⟨b, off, cs', y', hao, hcl, hcells, htr⟩ := hitem i hi
     obtain ⟨k0, k1, k2, k3, hu', u0, u1, u2, u3, p0, p1, p2, p3⟩ := und_item
     obtain ⟨xs', n', rfl, _, _, hxl', hf'⟩ := DataW.trod_struct hu' htr
     match cs', hcl with
     | [c0, c1, c2, c3], _ =>
      have q0 := hf' 0 k0 rfl
      have q1 := hf' 1 k1 rfl
      have q2 := hf' 2 k2 rfl
      have q3 := hf' 3 k3 rfl
      rw [u0, p0, co_int] at q0
      rw [u1, p1, co_f64] at q1
      rw [u2, p2, co_i32] at q2
      rw [u3, p3, co_slPlain] at q3
      simp only [List.drop, List.take] at q0 q1 q2 q3
      match xs', hxl' with
      | [z0, z1, z2, z3], _ =>
       simp only [List.getElem?_cons_zero, List.getElem?_cons_succ] at q0 q1 q2 q3
       obtain ⟨kd, e0⟩ := cint_of Tryz.underlying3 q0
       cases e0
       obtain ⟨nm, e1, hnm⟩ := cfloat_of Tryz.underlying31 q1
       cases e1
       obtain ⟨ch, e2⟩ := cint_of Tryz.underlying21 q2
       cases e2
       obtain ⟨bo, blen, bcap, n3, hn3, e3, hb1, hb2, hbox⟩ := cells_slice Tryz.underlying32 co_plain (by omega) q3
       cases e3
       have each : ∀ k, k < blen → ∃ x : PA × (Value × Value × Value) × Nat, (∃ b off, bo = some ⟨b, off, none⟩ ∧ w.cell? ⟨b, off + k * 3, none⟩ = some x.2.1.1 ∧ w.cell? ⟨b, off + k * 3 + 1, none⟩ = some x.2.1.2.1 ∧ w.cell? ⟨b, off + k * 3 + 2, none⟩ = some x.2.1.2.2) ∧
         IsP w (fun _ => True) (.agg #[x.2.1.1, x.2.1.2.1, x.2.1.2.2]) x.1 ∧ lo x.2.2 x.1 := by
        intro k hk
        obtain ⟨b', off', cs2, y2, hbo, hcl2, hcells2, htr2⟩ := hbox k hk
        obtain ⟨a', b2, c', p, d, rfl, hp, hd⟩ := ih n3 (by omega) cs2 y2 htr2
        exact ⟨(p, (a', b2, c'), d), ⟨b', off', hbo, by simpa using hcells2 0 (by omega), by simpa using hcells2 1 (by omega), by simpa using hcells2 2 (by omega)⟩, hp, hd⟩
       obtain ⟨L, hL, hq⟩ := listAll blen _ each
       obtain ⟨D, hD⟩ := lo_all (n := blen) (fun k d => ∀ x, L[k]? = some x → lo d x.1) (fun i a b hab h x hx => lo_mono (h x hx) hab) (fun k hk => ⟨((L[k]?).map (fun x => x.2.2)).getD 0, fun x hx => by rw [hx]; exact (hq k x hx).2.2⟩)
       refine ⟨((kd, nm, ch, L.map (·.1)), (.slice bo blen bcap, D)), ⟨b, off, hao, by simpa using hcells 0 (by omega), by simpa using hcells 1 (by omega), by simpa using hcells 2 (by omega), by simpa using hcells 3 (by omega)⟩, ?_, lt_of_wf hnm, ?_⟩
       ·refine ⟨bo, bcap, fun k => ((L[k]?).map (fun x => x.2.1.1)).getD undef, fun k => ((L[k]?).map (fun x => x.2.1.2.1)).getD undef, fun k => ((L[k]?).map (fun x => x.2.1.2.2)).getD undef, by simp [hL], by simpa [hL] using hb1, hb2, fun k hk => ?_, fun k p hp => ?_⟩
        ·have hk' : k < L.length := by simpa using hk
         obtain ⟨⟨b', off', e, c0, c1, c2⟩, _⟩ := hq k _ (List.getElem?_eq_getElem hk')
         exact ⟨b', off', e, trivial, by simp only [List.getElem?_eq_getElem hk']; exact c0, by simp only [List.getElem?_eq_getElem hk']; exact c1, by simp only [List.getElem?_eq_getElem hk']; exact c2⟩
        ·simp only [List.getElem?_map, Option.map_eq_some_iff] at hp
         obtain ⟨x, hx, rfl⟩ := hp
         simp only [hx]
         exact (hq k x hx).2.1
       ·intro q hqm
        obtain ⟨x, hx, rfl⟩ := List.mem_map.1 hqm
        obtain ⟨k, hk⟩ := List.mem_iff_getElem?.1 hx
        exact hD k (by rw [← hL]; exact (List.getElem?_eq_some_iff.1 hk).1) x hk
    obtain ⟨L, hL, hq⟩ := listAll len _ one
    obtain ⟨D, hD⟩ := lo_all (n := len) (fun k d => ∀ x, L[k]? = some x → ∀ q ∈ x.1.2.2.2, lo d q) (fun i a b hab h x hx q hq => lo_mono (h x hx q hq) hab) (fun k hk => ⟨((L[k]?).map (fun x => x.2.2)).getD 0, fun x hx => by rw [hx]; exact (hq k x hx).2.2.2⟩)
    refine ⟨_, _, _, .mk s (L.map (·.1)) z, D + 1, rfl, ?_, ?_⟩
    ·have : IsP w (fun _ => True) (.agg #[a, .slice ao (L.map (·.1)).length cap, .int .i64 z]) (.mk s (L.map (·.1)) z) := by
      refine IsP.of hs ⟨ao, cap, fun k => ((L[k]?).map (fun x => x.2.1)).getD undef, rfl, by simpa [hL] using hl1, hl2, fun i x hx => ?_, fun i x hx => ?_⟩
      ·simp only [List.getElem?_map, Option.map_eq_some_iff] at hx
       obtain ⟨x, hx, rfl⟩ := hx
       obtain ⟨⟨b', off', e, c0, c1, c2, c3⟩, _⟩ := hq i x hx
       exact ⟨b', off', e, trivial, c0, c1, c2, by simp only [hx]; exact c3⟩
      ·simp only [List.getElem?_map, Option.map_eq_some_iff] at hx
       obtain ⟨x, hx, rfl⟩ := hx
       simp only [hx]
       exact (hq i x hx).2.1
     simpa [hL] using this
    ·intro x hx
     obtain ⟨y, hy, rfl⟩ := List.mem_map.1 (show _ ∈ L.map (·.1) from hx)
     obtain ⟨k, hk⟩ := List.mem_iff_getElem?.1 hy
     exact ⟨(hq k y hk).2.2.1, hD k (by rw [← hL]; exact (List.getElem?_eq_some_iff.1 hk).1) y hk⟩
end
/-- An argument that is a plain array. -/
theorem open_plain {H : Type} {enc : TypeId × Value → H} {w : World} {base : Nat} {spare : Nat → Bool} {held : Bool} {r : Reach} {b0 : Nat} {v : Value} {d : DataW H} {p : List MemPlace}
  (hv : Value.okWide Tryz.prog w r b0 25 v) (h : DataW.Trod enc Tryz.prog w base spare held 25 v d p) : ∃ P n, IsP w (fun _ => True) v P ∧ lo n P := by
 obtain ⟨f0, f1, f2, hu, _⟩ := und_plain
 obtain ⟨cs, rfl, hsz⟩ := okWide_struct hu hv
 obtain ⟨fuel, hf⟩ := h
 obtain ⟨a, b, c, P, n, e, hp, hn⟩ := plain_of fuel _ _ hf
 obtain ⟨l⟩ := cs
 have : l = [a, b, c] := e
 subst this
 exact ⟨P, n, hp, hn⟩
end Go.Proofs.YtbdhibcbpgjbmaaGreatDoor
