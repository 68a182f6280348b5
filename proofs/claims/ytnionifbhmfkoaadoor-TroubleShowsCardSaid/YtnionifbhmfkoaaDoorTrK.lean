/- awake: the chapter's example. -/
import Derived.Test.YtnionifbhmfkoaaDoorTrJ
namespace Go.Proofs.YtnionifbhmfkoaaDoor
open Go.RowKit Go.Extern.Stop Go.Stop Go.Extern
set_option maxRecDepth 100000

theorem Strs.own {w : World} {B : Nat} {v : Value} {ns : List ByteArray} (h : w.ownsRow B 9 1 v ns.length (ns.map Value.string)) : Strs w v ns := by
  rcases Nat.eq_zero_or_pos ns.length with h0 | h0
  · have : ns = [] := List.length_eq_zero_iff.1 h0
    subst this
    rcases h.2 with ⟨rfl, _⟩ | ⟨g, cap, cur, rfl, _⟩
    · exact .inl ⟨_, rfl, _, rfl⟩
    · exact .inl ⟨_, rfl, _, rfl⟩
  · rcases h.2 with ⟨rfl, h1⟩ | ⟨g, cap, cur, hv, r⟩
    · omega
    · subst hv
      refine .inr ⟨g, 0, cap, h0, rfl, fun i hi => ?_⟩
      have hc := h.cells (g := g) rfl i (.string ns[i]) (by simp [hi])
      have hadd : (⟨g, 0, none⟩ : Addr).add i = ⟨g, i, none⟩ := by unfold Addr.add; split <;> simp_all
      rw [hadd] at hc
      simpa using hc
theorem Strs.one (w : World) (s : ByteArray) (T : TypeId) : Strs (w.alloc (.cells #[.string s] T)) (.slice (some ⟨w.heap.size, 0, none⟩) 1 1) [s] :=
  .inr ⟨w.heap.size, 0, 1, by simp, rfl, fun i hi => by
    have : i = 0 := by simpa using hi
    subst this; simp⟩
theorem names_calls (c a : Int) (bt : Nat) (ns : List ByteArray) (u : Value) (w : World) (hc : (c == 0) = false) (hm : ns.length ≤ 60) (hch : Chain w c a bt ns u) :
    Calls Tryd.prog 12 #[u] w fun e w' => ∃ v, e = .returned v ∧ Strs w' v ns ∧ Below w.heap.size w w' := by
  refine (names_loop c a bt ns (ns.length + 2) u w hc hm ⟨Below.refl _ _, .inl ⟨[], ns, rfl, rfl, hch, World.ownsRow_nil _ _ _ _⟩⟩).mono ?_
  rintro e w' ⟨v, rfl, ho, hB⟩
  exact ⟨v, rfl, Strs.own ho, hB⟩
theorem names_class (c : Int) (w : World) (hc : (c == 0) = false) :
    Calls Tryd.prog 12 #[.iface 38 (.int .i64 c)] w fun e w' => ∃ v, e = .returned v ∧ Strs w' v [] ∧ Below w.heap.size w w' := by
  refine (names_loop c 0 0 [] 1 _ w hc (by simp) ⟨Below.refl _ _, .inr (.inl ⟨rfl, rfl, World.ownsRow_nil _ _ _ _⟩)⟩).mono ?_
  rintro e w' ⟨v, rfl, ho, hB⟩
  exact ⟨v, rfl, Strs.own ho, hB⟩
theorem names_nil (w : World) :
    Calls Tryd.prog 12 #[.nilIface] w fun e w' => ∃ v, e = .returned v ∧ Strs w' v [] ∧ Below w.heap.size w w' := by
  refine (names_loop 1 0 0 [] 0 _ w rfl (by simp) ⟨Below.refl _ _, .inr (.inr ⟨rfl, rfl, World.ownsRow_nil _ _ _ _⟩)⟩).mono ?_
  rintro e w' ⟨v, rfl, ho, hB⟩
  exact ⟨v, rfl, Strs.own ho, hB⟩
theorem strs_len {w : World} {v : Value} {ns : List ByteArray} (h : Strs w v ns) : ∃ ao cap, v = .slice ao ns.length cap := by
  rcases h with ⟨cap1, rfl, ao1, rfl⟩ | ⟨b1, off1, cap1, h01, rfl, hc1⟩
  · exact ⟨_, _, rfl⟩
  · exact ⟨_, _, rfl⟩
theorem below_drewN {B : Nat} {a w : World} (h : Below B a w) (n : Nat) : Below B a (w.drewN n) := ⟨h.os, h.tape, h.output, h.size, h.block⟩
theorem Laid.below {w w' : World} (h : Laid w) (hb : Below w.heap.size w w') : Laid w' := keep_below hb _ _ h

set_option maxHeartbeats 2000000 in
theorem awake_calls (w : World) (hg : Laid w) : Calls Tryd.prog 8 #[] w fun e w' => e = .returned (.bool true) ∧ Below w.heap.size w w' := by
  have HG := Lib.hid hg
  clear hg
  go_enter Tryd.func8, Tryd.ntmps8
  go_wp2_with fail
  refine (made_some _ 22 3 [⟨#[102]⟩] _ rfl (Strs.one w ⟨#[102]⟩ 9) (by decide)).mono ?_
  rintro e w1 ⟨bt, u, rfl, hch, hB⟩
  have HB := Lib.hid (((Below.refl w.heap.size w).alloc (Nat.le_refl _) _).trans (hB.mono (by simp)))
  have HC := Lib.hid hch
  clear hB hch
  go_wp2_with fail
  refine (text_calls 22 bt [⟨#[102]⟩] u w1 rfl (HG.out.below HB.out) rfl HC.out.x).mono ?_
  rintro e w2 ⟨rfl, hB⟩
  rw [show textB 22 [⟨#[102]⟩] = ⟨#[102, 58, 32, 82, 65, 78, 75, 32, 69, 82, 82, 79, 82]⟩ from rfl]
  have HC2 := Lib.hid (HC.out.keep (keep_below hB))
  have HB2 := Lib.hid (HB.out.trans (hB.mono HB.out.size))
  clear hB
  go_wp2_with fail
  refine (At_calls 22 3 bt _ u w2 (by simp) (HG.out.below HB2.out) HC2.out.link HC2.out.at').mono ?_
  rintro e w3 ⟨rfl, hB⟩
  have HC3 := Lib.hid (HC2.out.keep (keep_below hB))
  have HB3 := Lib.hid (HB2.out.trans (hB.mono HB2.out.size))
  clear hB
  go_wp2_with fail
  refine (names_calls 22 3 bt _ u w3 rfl (by simp) HC3.out).mono ?_
  rintro e w4 ⟨v, rfl, hs, hB⟩
  have HB4 := Lib.hid (HB3.out.trans (hB.mono HB3.out.size))
  have HS := Lib.hid hs
  clear hB hs
  go_wp2_with fail
  refine (texts_calls _ _ [⟨#[102]⟩] [⟨#[102]⟩] _ (HS.out.keep (keep_alloc _ _)) (Strs.one w4 ⟨#[102]⟩ 9) (by decide) (by decide)).mono ?_
  rintro e w5 ⟨rfl, n, rfl⟩
  go_wp2
  go_ret
  exact ⟨ret_b (by simp), below_drewN (HB4.out.alloc HB4.out.size _) n⟩
end Go.Proofs.YtnionifbhmfkoaaDoor
