/- Merged: RxM, RxN, RxP, RxA, RxC, RxD, RxQ. -/
import Derived.Test.YtbdhibcbpgjbmaaGreatDoorMgOr1
import Derived.Test.YtbdhibcbpgjbmaaGreatDoorMgVe1
import Derived.Test.YtbdhibcbpgjbmaaGreatDoorMgPi1
import Derived.Test.YtbdhibcbpgjbmaaGreatDoorMgSh1
import Derived.Test.YtbdhibcbpgjbmaaGreatDoorMgVa2
/- Layer 17, plain: places put in order by a digit of their keys; many passes are one order. -/
namespace Go.Proofs.YtbdhibcbpgjbmaaGreatDoor
set_option maxRecDepth 100000
set_option linter.unusedVariables false

end Go.Proofs.YtbdhibcbpgjbmaaGreatDoor

/- Layer 17, plain: many passes are one order; in which bits keys differ. -/
namespace Go.Proofs.YtbdhibcbpgjbmaaGreatDoor
set_option maxRecDepth 100000
set_option linter.unusedVariables false

end Go.Proofs.YtbdhibcbpgjbmaaGreatDoor

/- Layer 17, plain: places put by counting; passes that begin where keys differ; what the keys are. -/
namespace Go.Proofs.YtbdhibcbpgjbmaaGreatDoor
set_option maxRecDepth 100000
open Go.RowKit Fl
set_option linter.unusedVariables false

end Go.Proofs.YtbdhibcbpgjbmaaGreatDoor

/- Layer 17, walked: digit, the reference's Digit, Spread, the reference's Spread; an array of 2048 numbers. -/
namespace Go.Proofs.YtbdhibcbpgjbmaaGreatDoor
set_option maxRecDepth 100000
open Go.RowKit Fl
set_option linter.unusedVariables false

end Go.Proofs.YtbdhibcbpgjbmaaGreatDoor

/- Layer 17, walked: Pass. -/
namespace Go.Proofs.YtbdhibcbpgjbmaaGreatDoor
set_option maxRecDepth 100000
open Go.RowKit Fl
set_option linter.unusedVariables false

theorem zL_get {l : List Nat} {k : Nat} {x : Int} (h : (zL l)[k]? = some x) : ∃ p, l[k]? = some p ∧ x = (p : Int) := by
  unfold zL at h
  rw [List.getElem?_map] at h
  cases hp : l[k]? with
  | none => rw [hp] at h; cases h
  | some p => rw [hp] at h; exact ⟨p, rfl, (Option.some.inj h).symm⟩
end Go.Proofs.YtbdhibcbpgjbmaaGreatDoor

/- Layer 17, walked: the reference's Pass. -/
namespace Go.Proofs.YtbdhibcbpgjbmaaGreatDoor
set_option maxRecDepth 100000
open Go.RowKit Fl
set_option linter.unusedVariables false

theorem own_lower {w : World} {b1 b2 : Nat} {e : TypeId} {v : Value} {n : Nat} {xs : List Value} (h : w.ownsRow b1 e 1 v n xs) (hb : b2 ≤ b1) : w.ownsRow b2 e 1 v n xs := by
  refine ⟨h.1, ?_⟩
  rcases h.2 with h2 | ⟨g, cap, cur, h1, h2, h3⟩
  · exact .inl h2
  · exact .inr ⟨g, cap, cur, h1, Nat.le_trans hb h2, h3⟩
theorem zL_app (a b : List Nat) : zL (a ++ b) = zL a ++ zL b := by unfold zL; rw [List.map_append]
theorem ints_append2 (a b : List Int) : ints (a ++ b) = ints a ++ ints b := by unfold ints; rw [List.map_append]
theorem cell_one_new (w1 : World) (x : Value) (e : TypeId) : ∀ j u, ([x] : List Value)[j]? = some u → (w1.alloc (.cells #[x] e)).cell? ((⟨w1.heap.size, 0, none⟩ : Addr).add j) = some u := by
  intro j u hj
  match j, hj with
  | 0, hj => simp at hj; subst hj; simp [Addr.add]
  | j + 1, hj => simp at hj
theorem one_intV (p : Int) : ∀ u ∈ ([.int .i64 p] : List Value), u.oneCell' = true := by intro u hu; simp at hu; subst hu; rfl
end Go.Proofs.YtbdhibcbpgjbmaaGreatDoor

/- An argument that is a plain array, opened: its characters are of their type. -/
namespace Go.Proofs.YtbdhibcbpgjbmaaGreatDoor
open Go.RowKit Go.ChangeShapes Go.WideShapes
set_option linter.unusedVariables false
set_option maxRecDepth 100000

/-- Its characters are of their type. -/
def chO (p : PA) : Prop := ∀ x ∈ p.l, -2147483648 ≤ x.2.2.1 ∧ x.2.2.1 ≤ 2147483647
theorem wf_i32 {z : Int} (h : (Lit.int .i32 z).wf = true) : -2147483648 ≤ z ∧ z ≤ 2147483647 := by
  exact bounds_i32 h
section
variable {H : Type} {enc : TypeId × Value → H} {w : World} {base : Nat} {spare : Nat → Bool} {held : Bool}
theorem cint_ofw {t : TypeId} {k : IntKind} {fuel : Nat} {cs : List Value} {P : Program} {y : DataW H × List MemPlace} (ht : P.underlying t = some (.int k)) (h : DataW.trod enc P w base spare held fuel t cs = some y) : ∃ z, cs = [.int k z] ∧ (Lit.int k z).wf = true := by
  obtain ⟨u, rfl, z, rfl, hz⟩ := elem_int ht _ _ _ h
  exact ⟨z, rfl, hz⟩
theorem plain_ofc (fuel : Nat) : ∀ (cs : List Value) (y : DataW H × List MemPlace), DataW.trod enc Tryz.prog w base spare held fuel 25 cs = some y →
    ∃ a b c p d, cs = [a, b, c] ∧ IsP w (fun _ => True) (.agg #[a, b, c]) p ∧ lo d p ∧ chO p := by
  induction fuel using Nat.strongRecOn with
  | ind fuel ih =>
    intro cs y h
    obtain ⟨f0, f1, f2, hu, t0, t1, t2, o0, o1, o2⟩ := und_plain
    obtain ⟨xs, n, rfl, _, hl, hxl, hf⟩ := DataW.trod_struct hu h
    rw [co_plain] at hl
    match cs, hl with
    | [a, b, c], _ =>
      have g0 := hf 0 f0 rfl
      have g1 := hf 1 f1 rfl
      have g2 := hf 2 f2 rfl
      rw [t0, o0, co_slInt] at g0
      rw [t1, o1, co_slItem] at g1
      rw [t2, o2, co_int] at g2
      simp only [List.drop, List.take] at g0 g1 g2
      match xs, hxl with
      | [y0, y1, y2], _ =>
        simp only [List.getElem?_cons_zero, List.getElem?_cons_succ] at g0 g1 g2
        obtain ⟨v, s, e0, hs⟩ := ints_of Tryz.underlying22 co_int Tryz.underlying3 g0
        obtain rfl : a = v := by simpa using e0
        obtain ⟨z, e2⟩ := cint_of Tryz.underlying3 g2
        cases e2
        obtain ⟨ao, len, cap, n1, hn1, e1, hl1, hl2, hitem⟩ := cells_slice Tryz.underlying23 co_item (by omega) g1
        cases e1
        -- each item
        have one : ∀ i, i < len → ∃ x : PI × (Value × Nat), (∃ b off, ao = some ⟨b, off, none⟩ ∧ w.cell? ⟨b, off + i * 4, none⟩ = some (.int .i64 x.1.1) ∧ w.cell? ⟨b, off + i * 4 + 1, none⟩ = some (.float .f64 x.1.2.1) ∧
            w.cell? ⟨b, off + i * 4 + 2, none⟩ = some (.int .i32 x.1.2.2.1) ∧ w.cell? ⟨b, off + i * 4 + 3, none⟩ = some x.2.1) ∧ IsB w (fun _ => True) x.2.1 x.1.2.2.2 ∧ x.1.2.1 < 18446744073709551616 ∧ (∀ q ∈ x.1.2.2.2, lo x.2.2 q) ∧ -2147483648 ≤ x.1.2.2.1 ∧ x.1.2.2.1 ≤ 2147483647 := by
          intro i hi
          obtain ⟨b, off, cs', y', hao, hcl, hcells, htr⟩ := hitem i hi
          obtain ⟨k0, k1, k2, k3, hu', u0, u1, u2, u3, p0, p1, p2, p3⟩ := und_item
          obtain ⟨xs', n', rfl, _, _, hxl', hf'⟩ := DataW.trod_struct hu' htr
          match cs', hcl with
          | [c0, c1, c2, c3], _ =>
            have q0 := hf' 0 k0 rfl
            have q1 := hf' 1 k1 rfl
            have q2 := hf' 2 k2 rfl
            have q3 := hf' 3 k3 rfl
            rw [u0, p0, co_int] at q0
            rw [u1, p1, co_f64] at q1
            rw [u2, p2, co_i32] at q2
            rw [u3, p3, co_slPlain] at q3
            simp only [List.drop, List.take] at q0 q1 q2 q3
            match xs', hxl' with
            | [z0, z1, z2, z3], _ =>
              simp only [List.getElem?_cons_zero, List.getElem?_cons_succ] at q0 q1 q2 q3
              obtain ⟨kd, e0⟩ := cint_of Tryz.underlying3 q0
              cases e0
              obtain ⟨nm, e1, hnm⟩ := cfloat_of Tryz.underlying31 q1
              cases e1
              obtain ⟨ch, e2, hch⟩ := cint_ofw Tryz.underlying21 q2
              cases e2
              obtain ⟨bo, blen, bcap, n3, hn3, e3, hb1, hb2, hbox⟩ := cells_slice Tryz.underlying32 co_plain (by omega) q3
              cases e3
              have each : ∀ k, k < blen → ∃ x : PA × (Value × Value × Value) × Nat, (∃ b off, bo = some ⟨b, off, none⟩ ∧ w.cell? ⟨b, off + k * 3, none⟩ = some x.2.1.1 ∧ w.cell? ⟨b, off + k * 3 + 1, none⟩ = some x.2.1.2.1 ∧ w.cell? ⟨b, off + k * 3 + 2, none⟩ = some x.2.1.2.2) ∧
                  IsP w (fun _ => True) (.agg #[x.2.1.1, x.2.1.2.1, x.2.1.2.2]) x.1 ∧ lo x.2.2 x.1 := by
                intro k hk
                obtain ⟨b', off', cs2, y2, hbo, hcl2, hcells2, htr2⟩ := hbox k hk
                obtain ⟨a', b2, c', p, d, rfl, hp, hd, _⟩ := ih n3 (by omega) cs2 y2 htr2
                exact ⟨(p, (a', b2, c'), d), ⟨b', off', hbo, by simpa using hcells2 0 (by omega), by simpa using hcells2 1 (by omega), by simpa using hcells2 2 (by omega)⟩, hp, hd⟩
              obtain ⟨L, hL, hq⟩ := listAll blen _ each
              obtain ⟨D, hD⟩ := lo_all (n := blen) (fun k d => ∀ x, L[k]? = some x → lo d x.1) (fun i a b hab h x hx => lo_mono (h x hx) hab) (fun k hk => ⟨((L[k]?).map (fun x => x.2.2)).getD 0, fun x hx => by rw [hx]; exact (hq k x hx).2.2⟩)
              refine ⟨((kd, nm, ch, L.map (·.1)), (.slice bo blen bcap, D)), ⟨b, off, hao, by simpa using hcells 0 (by omega), by simpa using hcells 1 (by omega), by simpa using hcells 2 (by omega), by simpa using hcells 3 (by omega)⟩, ?_, lt_of_wf hnm, ?_, wf_i32 hch⟩
              · refine ⟨bo, bcap, fun k => ((L[k]?).map (fun x => x.2.1.1)).getD undef, fun k => ((L[k]?).map (fun x => x.2.1.2.1)).getD undef, fun k => ((L[k]?).map (fun x => x.2.1.2.2)).getD undef, by simp [hL], by simpa [hL] using hb1, hb2, fun k hk => ?_, fun k p hp => ?_⟩
                · have hk' : k < L.length := by simpa using hk
                  obtain ⟨⟨b', off', e, c0, c1, c2⟩, _⟩ := hq k _ (List.getElem?_eq_getElem hk')
                  exact ⟨b', off', e, trivial, by simp only [List.getElem?_eq_getElem hk']; exact c0, by simp only [List.getElem?_eq_getElem hk']; exact c1, by simp only [List.getElem?_eq_getElem hk']; exact c2⟩
                · simp only [List.getElem?_map, Option.map_eq_some_iff] at hp
                  obtain ⟨x, hx, rfl⟩ := hp
                  simp only [hx]
                  exact (hq k x hx).2.1
              · intro q hqm
                obtain ⟨x, hx, rfl⟩ := List.mem_map.1 hqm
                obtain ⟨k, hk⟩ := List.mem_iff_getElem?.1 hx
                exact hD k (by rw [← hL]; exact (List.getElem?_eq_some_iff.1 hk).1) x hk
        obtain ⟨L, hL, hq⟩ := listAll len _ one
        obtain ⟨D, hD⟩ := lo_all (n := len) (fun k d => ∀ x, L[k]? = some x → ∀ q ∈ x.1.2.2.2, lo d q) (fun i a b hab h x hx q hq => lo_mono (h x hx q hq) hab) (fun k hk => ⟨((L[k]?).map (fun x => x.2.2)).getD 0, fun x hx => by rw [hx]; exact (hq k x hx).2.2.2.1⟩)
        refine ⟨_, _, _, .mk s (L.map (·.1)) z, D + 1, rfl, ?_, ?_, ?_⟩
        · have : IsP w (fun _ => True) (.agg #[a, .slice ao (L.map (·.1)).length cap, .int .i64 z]) (.mk s (L.map (·.1)) z) := by
            refine IsP.of hs ⟨ao, cap, fun k => ((L[k]?).map (fun x => x.2.1)).getD undef, rfl, by simpa [hL] using hl1, hl2, fun i x hx => ?_, fun i x hx => ?_⟩
            · simp only [List.getElem?_map, Option.map_eq_some_iff] at hx
              obtain ⟨x, hx, rfl⟩ := hx
              obtain ⟨⟨b', off', e, c0, c1, c2, c3⟩, _⟩ := hq i x hx
              exact ⟨b', off', e, trivial, c0, c1, c2, by simp only [hx]; exact c3⟩
            · simp only [List.getElem?_map, Option.map_eq_some_iff] at hx
              obtain ⟨x, hx, rfl⟩ := hx
              simp only [hx]
              exact (hq i x hx).2.1
          simpa [hL] using this
        · intro x hx
          obtain ⟨y, hy, rfl⟩ := List.mem_map.1 (show _ ∈ L.map (·.1) from hx)
          obtain ⟨k, hk⟩ := List.mem_iff_getElem?.1 hy
          exact ⟨(hq k y hk).2.2.1, hD k (by rw [← hL]; exact (List.getElem?_eq_some_iff.1 hk).1) y hk⟩
        · intro x hx
          obtain ⟨y, hy, rfl⟩ := List.mem_map.1 (show _ ∈ L.map (·.1) from hx)
          obtain ⟨k, hk⟩ := List.mem_iff_getElem?.1 hy
          exact (hq k y hk).2.2.2.2
end
theorem open_plainc {H : Type} {enc : TypeId × Value → H} {w : World} {base : Nat} {spare : Nat → Bool} {held : Bool} {r : Reach} {b0 : Nat} {v : Value} {d : DataW H} {p : List MemPlace}
    (hv : Value.okWide Tryz.prog w r b0 25 v) (h : DataW.Trod enc Tryz.prog w base spare held 25 v d p) : ∃ P n, IsP w (fun _ => True) v P ∧ lo n P ∧ chO P := by
  obtain ⟨f0, f1, f2, hu, _⟩ := und_plain
  obtain ⟨cs, rfl, hsz⟩ := okWide_struct hu hv
  obtain ⟨fuel, hf⟩ := h
  obtain ⟨a, b, c, P, n, e, hp, hn, hc⟩ := plain_ofc fuel _ _ hf
  obtain ⟨l⟩ := cs
  have : l = [a, b, c] := e
  subst this
  exact ⟨P, n, hp, hn, hc⟩
end Go.Proofs.YtbdhibcbpgjbmaaGreatDoor
