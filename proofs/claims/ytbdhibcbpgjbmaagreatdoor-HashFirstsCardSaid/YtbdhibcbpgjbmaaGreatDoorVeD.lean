/- Package vec, walked: Bits, Smalls, Ints, Floats, Chars. -/
import Derived.Test.YtbdhibcbpgjbmaaGreatDoorVeC
import Derived.Test.YtbdhibcbpgjbmaaGreatDoorNuC
namespace Go.Proofs.YtbdhibcbpgjbmaaGreatDoor
open Go.RowKit
set_option linter.unusedVariables false
set_option maxRecDepth 100000

/-- A block of one cell, known, not frozen. -/
def At1 (w : World) (b : Nat) (x : Value) : Prop := b < w.heap.size ∧ w.cell? ⟨b, 0, none⟩ = some x ∧ ∀ o, w.frozen? ⟨b, o, none⟩ = false
theorem At1.new (w : World) (x : Value) (t : TypeId) : At1 (w.alloc (.cells #[x] t)) w.heap.size x := ⟨by simp, by simp, fun o => by simp⟩
theorem At1.below {w w' : World} {b : Nat} {x : Value} (h : At1 w b x) (hb : Below w.heap.size w w') : At1 w' b x :=
 ⟨Nat.lt_of_lt_of_le h.1 hb.size, keep_below hb _ _ h.2.1, fun o => (hb.frozen (p := ⟨b, o, none⟩) h.1).trans (h.2.2 o)⟩
theorem At1.grown {w w' : World} {b : Nat} {x : Value} (h : At1 w b x) {row : Option Nat} (hg : w.grownBy w' row) (hne : some b ≠ row) : At1 w' b x :=
 ⟨Nat.lt_of_lt_of_le h.1 hg.size, hg.cell h.2.1 hne, fun o => (grown_frozen hg h.1 hne).trans (h.2.2 o)⟩
theorem below_set1 {w w2 : World} {b0 : Nat} (x : Value) (h : Below w.heap.size w w2) (hb : w.heap.size ≤ b0) : Below w.heap.size w (w2.setCell ⟨b0, 0, none⟩ x) := h.setCell (by exact hb) _
theorem below_new (w : World) (o : Obj) : Below w.heap.size w (w.alloc o) := (Below.refl _ _).alloc (Nat.le_refl _) _
/-- Bits beside a block of one cell that holds no word. -/
theorem bits_beside {w : World} {s : Value} {n b0 : Nat} {ws : List Nat} {u : Value} (h : Sl w s n (u64s ws)) (h0 : w.cell? ⟨b0, 0, none⟩ = some u) (h1 : ∀ o, 0 < o → w.cell? ⟨b0, o, none⟩ = none) (hu : ∀ z : Nat, u ≠ .int .u64 (z : Int)) : Slx w (fun b => b ≠ b0) s n (u64s ws) := by
 obtain ⟨hl, ao, cap, rfl, hc⟩ := h
 refine ⟨hl, ao, cap, rfl, fun i hi => ?_⟩
 obtain ⟨b, off, e, hcell⟩ := hc i hi
 refine ⟨b, off, e, fun eb => ?_, hcell⟩
 subst eb
 rw [u64s_get] at hcell
 by_cases hz : off + i = 0
 ·rw [hz, h0] at hcell
  exact hu _ (Option.some.inj hcell)
 ·rw [h1 _ (by omega)] at hcell
  cases hcell

theorem vsmalls_calls {ok : Nat → Prop} (v : Value) (l : List Int) (w : World) (hv : Slc w ok v l.length (i8s l)) (hm : l.length ≤ 2000000) :
  Calls Tryz.prog 49 #[v] w fun e w' => ∃ u, e = .returned (.agg #[u]) ∧ IsV w' (fun b => w.heap.size ≤ b) u (.smalls l) ∧ Below w.heap.size w w' := by
 have HV := Lib.hid hv
 obtain ⟨ao, cap, rfl, _⟩ := hv.opened
 clear hv
 go_enter Tryz.func49, Tryz.ntmps49
 go_wp2_with fail
 refine (CloneI8_calls _ l _ (HV.out.below (below_new _ _)) hm).mono ?_
 rintro e w1 ⟨v1, rfl, hs, hB⟩
 obtain ⟨_, a0, af⟩ := (At1.new w .nilIface 36).below hB
 have af0 := af 0
 have HS := Lib.hid hs
 have HB := Lib.hid ((below_new w (.cells #[.nilIface] 36)).trans (hB.mono (by simp)))
 clear hs hB af
 go_wp2
 refine bodyPost_ret (v := .agg #[.iface 85 v1]) (by simp [results, Tryz.results49, go_sem, a0]) rfl ⟨_, rfl, ?_, below_set1 _ HB.out (Nat.le_refl _)⟩
 exact .smalls (HS.out.keep (Kept.setCell _ _ _ (by simp)) (fun b _ h => by simp at h; omega))

theorem vchars_calls {ok : Nat → Prop} (v : Value) (l : List Int) (w : World) (hv : Slc w ok v l.length (i32s l)) (hm : l.length ≤ 2000000) :
  Calls Tryz.prog 73 #[v] w fun e w' => ∃ u, e = .returned (.agg #[u]) ∧ IsV w' (fun b => w.heap.size ≤ b) u (.chars l) ∧ Below w.heap.size w w' := by
 have HV := Lib.hid hv
 obtain ⟨ao, cap, rfl, _⟩ := hv.opened
 clear hv
 go_enter Tryz.func73, Tryz.ntmps73
 go_wp2_with fail
 refine (CloneI32_calls _ l _ (HV.out.below (below_new _ _)) hm).mono ?_
 rintro e w1 ⟨v1, rfl, hs, hB⟩
 obtain ⟨_, a0, af⟩ := (At1.new w .nilIface 36).below hB
 have af0 := af 0
 have HS := Lib.hid hs
 have HB := Lib.hid ((below_new w (.cells #[.nilIface] 36)).trans (hB.mono (by simp)))
 clear hs hB af
 go_wp2
 refine bodyPost_ret (v := .agg #[.iface 102 v1]) (by simp [results, Tryz.results73, go_sem, a0]) rfl ⟨_, rfl, ?_, below_set1 _ HB.out (Nat.le_refl _)⟩
 exact .chars (HS.out.keep (Kept.setCell _ _ _ (by simp)) (fun b _ h => by simp at h; omega))

theorem vbits_calls (v : Value) (l : List Bool) (w : World) (hv : IsBits w v l) (hm : l.length ≤ 1048576) :
  Calls Tryz.prog 46 #[v] w fun e w' => ∃ u, e = .returned (.agg #[u]) ∧ IsV w' (fun b => b < w.heap.size) u (.bits l) ∧ Below w.heap.size w w' := by
 obtain ⟨s, rfl, hs⟩ := hv
 have HS := Lib.hid ((Slx.of_sl hs).keep (Kept.refl _ _) (ok' := fun b => b < w.heap.size) (fun b h _ => h))
 obtain ⟨_, ao, cap, rfl, _⟩ := hs
 go_enter Tryz.func46, Tryz.ntmps46
 go_wp2
 refine bodyPost_ret (v := .agg #[.iface 81 (.agg #[.int .i64 l.length, .slice ao ((l.length + 63) / 64) cap])]) (by simp [results, Tryz.results46, go_sem]) rfl ⟨_, rfl, .bits (HS.out.keep ?_ (fun _ _ h => h)) hm, ?_⟩
 ·exact Kept.below ((below_new _ _).alloc (by simp) _)
 ·exact (below_new _ _).alloc (by simp) _
theorem vbits_ok {ok : Nat → Prop} (v : Value) (l : List Bool) (w : World) (hv : IsBitsX w ok v l) (hm : l.length ≤ 1048576) :
  Calls Tryz.prog 46 #[v] w fun e w' => ∃ u, e = .returned (.agg #[u]) ∧ IsV w' ok u (.bits l) ∧ Below w.heap.size w w' := by
 obtain ⟨s, rfl, hs⟩ := hv
 have HS := Lib.hid hs
 obtain ⟨_, ao, cap, rfl, _⟩ := hs
 go_enter Tryz.func46, Tryz.ntmps46
 go_wp2
 refine bodyPost_ret (v := .agg #[.iface 81 (.agg #[.int .i64 l.length, .slice ao ((l.length + 63) / 64) cap])]) (by simp [results, Tryz.results46, go_sem]) rfl ⟨_, rfl, .bits (HS.out.keep ?_ (fun _ _ h => h)) hm, ?_⟩
 ·exact Kept.below ((below_new _ _).alloc (by simp) _)
 ·exact (below_new _ _).alloc (by simp) _
theorem At1.go {w w' : World} {b : Nat} {x : Value} (h : At1 w b x) (hB : Below w.heap.size w w') : Hid (At1 w' b x) := Lib.hid (h.below hB)
theorem ahd1 (w : World) (x : Value) (t : TypeId) : ∃ w', w.alloc (.cells #[x] t) = w' ∧ Below w.heap.size w w' ∧ At1 w' w.heap.size x := ⟨_, rfl, below_new _ _, At1.new _ _ _⟩
end Go.Proofs.YtbdhibcbpgjbmaaGreatDoor
