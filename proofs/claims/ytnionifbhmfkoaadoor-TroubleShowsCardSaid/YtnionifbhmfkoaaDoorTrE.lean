/- errors.As at the three targets, then Of, At, Is: contracts over links. -/
import Derived.Test.YtnionifbhmfkoaaDoorTrD
namespace Go.Proofs.YtnionifbhmfkoaaDoor
open Go.RowKit Go.Extern.Stop Go.Stop Go.Extern
set_option maxRecDepth 100000

/-- package errors' own variable, as the row lists it. -/
def Laid (w : World) : Prop := w.cell? ⟨0, 0, none⟩ = some (.iface 90 (.agg #[.pointer (some ⟨2, 26, none⟩)]))

theorem grown_setCell (w : World) (a : Addr) (v : Value) : w.grownBy (w.setCell a v) (some a.block) :=
  ⟨rfl, rfl, rfl, by simp, fun k _ hne => Below.heap_setCell _ _ _ _ (fun e => hne (by rw [e]))⟩
theorem grown_trans {a b c : World} {row : Option Nat} (h : a.grownBy b row) (k : b.grownBy c row) : a.grownBy c row :=
  ⟨k.os.trans h.os, k.tape.trans h.tape, k.output.trans h.output, Nat.le_trans h.size k.size, fun i hi hne => (k.block i (Nat.lt_of_lt_of_le hi h.size) hne).trans (h.block i hi hne)⟩
theorem keep_alloc (w : World) (o : Obj) : ∀ a v, w.cell? a = some v → (w.alloc o).cell? a = some v := fun _ _ hv => by
  rw [World.cell?_alloc_lt _ _ _ (World.block_lt_of_cell? w _ hv)]; exact hv
theorem frozen_alloc (w : World) (o : Obj) (a : Addr) (h : a.block < w.heap.size) : (w.alloc o).frozen? a = w.frozen? a := World.frozen?_alloc_old _ _ a (Nat.ne_of_lt h)

/-- What a call that answers true at a target leaves: the target holds v, new blocks, nothing else. -/
def SetTo (t : Addr) (v : Value) (w w' : World) : Prop := w'.cell? t = some v ∧ w.grownBy w' (some t.block)
theorem SetTo.mk' {w w1 w2 : World} (t : Addr) (v old : Value) (o1 o2 o3 o4 : Obj) (h1 : w1 = (w.alloc o1).alloc o2) (h2 : w2 = ((w1.alloc o3).alloc o4).setCell t v) (ht : w.cell? t = some old) : SetTo t v w w2 := by
  subst h1; subst h2
  refine ⟨World.cell?_setCell_same _ _ _ (keep_alloc _ _ _ _ (keep_alloc _ _ _ _ (keep_alloc _ _ _ _ (keep_alloc _ _ _ _ ht)))), ?_⟩
  exact grown_trans (grown_trans (grown_trans (grown_trans (World.grownBy_alloc _ _ _) (World.grownBy_alloc _ _ _)) (World.grownBy_alloc _ _ _)) (World.grownBy_alloc _ _ _)) (grown_setCell _ _ _)

section
variable (c : Int) (bt : Nat) (k : Nat) (u : Value) (t : Addr) (old : Value) (w : World)

theorem AsC (hc : (c == 0) = false) (hg : Laid w) (hu : Link w c bt k u) (ht : w.cell? t = some old) (hf : w.frozen? t = false) :
    Calls Tryd.prog 21 #[u, .iface 59 (.pointer (some t))] w fun ev w' => ev = .returned (.bool true) ∧ SetTo t (.int .i64 c) w w' := by
  obtain ⟨tu, vu, rfl⟩ := hu.ne_nil
  have htl := World.block_lt_of_cell? w _ ht
  refine (As_Class tu vu t w (fun x w' => x = true ∧ SetTo t (.int .i64 c) w w') hg ?_).mono ?_
  · refine (as_link_Class c bt k _ hc t w.heap.size _ old _ (hu.keep fun a v h => keep_alloc _ _ _ _ (keep_alloc _ _ _ _ h)) (by simp) (keep_alloc _ _ _ _ (keep_alloc _ _ _ _ ht)) (by rw [frozen_alloc _ _ _ (by simp; omega), frozen_alloc _ _ _ htl]; exact hf)).mono ?_
    rintro e w' ⟨rfl, h⟩
    exact ⟨true, rfl, rfl, SetTo.mk' t _ old _ _ _ _ rfl h ht⟩
  · rintro e w' ⟨x, rfl, rfl, h⟩
    exact ⟨rfl, h⟩
theorem AsT (hk1 : 1 ≤ k) (hg : Laid w) (hu : Link w c bt k u) (ht : w.cell? t = some old) (hf : w.frozen? t = false) :
    Calls Tryd.prog 21 #[u, .iface 45 (.pointer (some t))] w fun ev w' => ev = .returned (.bool true) ∧ SetTo t (.pointer (some ⟨bt, 0, none⟩)) w w' := by
  obtain ⟨tu, vu, rfl⟩ := hu.ne_nil
  have htl := World.block_lt_of_cell? w _ ht
  refine (As_PTrouble tu vu t w (fun x w' => x = true ∧ SetTo t (.pointer (some ⟨bt, 0, none⟩)) w w') hg ?_).mono ?_
  · refine (as_link_PTrouble c bt k _ hk1 t w.heap.size _ old _ (hu.keep fun a v h => keep_alloc _ _ _ _ (keep_alloc _ _ _ _ h)) (by simp) (keep_alloc _ _ _ _ (keep_alloc _ _ _ _ ht)) (by rw [frozen_alloc _ _ _ (by simp; omega), frozen_alloc _ _ _ htl]; exact hf)).mono ?_
    rintro e w' ⟨rfl, h⟩
    exact ⟨true, rfl, rfl, SetTo.mk' t _ old _ _ _ _ rfl h ht⟩
  · rintro e w' ⟨x, rfl, rfl, h⟩
    exact ⟨rfl, h⟩
theorem AsT_miss (hg : Laid w) (hu : Link w c bt 0 u) :
    Calls Tryd.prog 21 #[u, .iface 45 (.pointer (some t))] w fun ev w' => ev = .returned (.bool false) ∧ Below w.heap.size w w' := by
  obtain ⟨tu, vu, rfl⟩ := hu.ne_nil
  refine (As_PTrouble tu vu t w (fun x w' => x = false ∧ Below w.heap.size w w') hg ?_).mono ?_
  · refine (as_miss_PTrouble c bt 0 _ rfl w.heap.size _ _ (hu.keep fun a v h => keep_alloc _ _ _ _ (keep_alloc _ _ _ _ h))).mono ?_
    rintro e w' ⟨rfl, rfl⟩
    exact ⟨false, rfl, rfl, (((Below.refl _ _).alloc (Nat.le_refl _) _).alloc (by simp) _).alloc (by simp; omega) _⟩
  · rintro e w' ⟨x, rfl, rfl, h⟩
    exact ⟨rfl, h⟩
theorem AsP (b : Nat) (hg : Laid w) (ht : w.cell? t = some old) (hf : w.frozen? t = false) :
    Calls Tryd.prog 21 #[.iface 42 (.pointer (some ⟨b, 0, none⟩)), .iface 49 (.pointer (some t))] w fun ev w' => ev = .returned (.bool true) ∧ SetTo t (.pointer (some ⟨b, 0, none⟩)) w w' := by
  have htl := World.block_lt_of_cell? w _ ht
  refine (As_PCall _ _ t w (fun x w' => x = true ∧ SetTo t (.pointer (some ⟨b, 0, none⟩)) w w') hg ?_).mono ?_
  · refine (as_hit_PCall _ t w.heap.size _ old _ (by simp) (keep_alloc _ _ _ _ (keep_alloc _ _ _ _ ht)) (by rw [frozen_alloc _ _ _ (by simp; omega), frozen_alloc _ _ _ htl]; exact hf)).mono ?_
    rintro e w' ⟨rfl, h⟩
    exact ⟨true, rfl, rfl, SetTo.mk' t _ old _ _ _ _ rfl h ht⟩
  · rintro e w' ⟨x, rfl, rfl, h⟩
    exact ⟨rfl, h⟩
theorem AsP_miss (hc : (c == 0) = false) (hk : k ≤ 1) (hg : Laid w) (hu : Link w c bt k u) :
    Calls Tryd.prog 21 #[u, .iface 49 (.pointer (some t))] w fun ev w' => ev = .returned (.bool false) ∧ Below w.heap.size w w' := by
  obtain ⟨tu, vu, rfl⟩ := hu.ne_nil
  refine (As_PCall tu vu t w (fun x w' => x = false ∧ Below w.heap.size w w') hg ?_).mono ?_
  · refine (as_miss_PCall c bt k _ hc hk w.heap.size _ _ (hu.keep fun a v h => keep_alloc _ _ _ _ (keep_alloc _ _ _ _ h))).mono ?_
    rintro e w' ⟨rfl, rfl⟩
    exact ⟨false, rfl, rfl, (((Below.refl _ _).alloc (Nat.le_refl _) _).alloc (by simp) _).alloc (by simp; omega) _⟩
  · rintro e w' ⟨x, rfl, rfl, h⟩
    exact ⟨rfl, h⟩
end

/-! Of, At -/
theorem Laid.alloc {w : World} (h : Laid w) (o : Obj) : Laid (w.alloc o) := keep_alloc _ _ _ _ h
theorem below_of_set {w w' : World} {o : Obj} {v : Value} (h : SetTo ⟨w.heap.size, 0, none⟩ v (w.alloc o) w') : Below w.heap.size w w' :=
  ((Below.refl _ _).alloc (Nat.le_refl _) _).grown h.2 (by simp) (fun k hk => by cases hk; exact Nat.le_refl _)

set_option maxHeartbeats 1000000 in
theorem Of_calls (c : Int) (bt k : Nat) (u : Value) (w : World) (hc : (c == 0) = false) (hg : Laid w) (hu : Link w c bt k u) :
    Calls Tryd.prog 10 #[u] w fun ev w' => ev = .returned (.int .i64 c) ∧ Below w.heap.size w w' := by
  obtain ⟨tu, vu, rfl⟩ := hu.ne_nil
  have HA := Lib.hid (AsC c bt k (.iface tu vu) ⟨w.heap.size, 0, none⟩ (.int .i64 0) (w.alloc (.cells #[.int .i64 0] 38)) hc (hg.alloc _) (hu.keep (keep_alloc _ _)) (by simp) (by simp))
  clear hu hg
  go_enter Tryd.func10, Tryd.ntmps10
  go_wp2_with (go_at_call 21; refine (HA.out).mono ?_; rintro e w' ⟨rfl, hs⟩; have hcell := hs.1; have HB := Lib.hid (below_of_set hs); clear hs)
  go_ret
  exact ⟨rfl, HB.out⟩
set_option maxHeartbeats 1000000 in
theorem At_calls (c a : Int) (bt k : Nat) (u : Value) (w : World) (hk : 1 ≤ k) (hg : Laid w) (hu : Link w c bt k u) (ha : w.cell? ⟨bt, 1, none⟩ = some (.int .i64 a)) :
    Calls Tryd.prog 11 #[u] w fun ev w' => ev = .returned (.int .i64 a) ∧ Below w.heap.size w w' := by
  obtain ⟨tu, vu, rfl⟩ := hu.ne_nil
  have hbl := World.block_lt_of_cell? w _ ha
  have HA := Lib.hid (AsT c bt k (.iface tu vu) ⟨w.heap.size, 0, none⟩ (.pointer none) (w.alloc (.cells #[.pointer none] 41)) hk (hg.alloc _) (hu.keep (keep_alloc _ _)) (by simp) (by simp))
  have HW := Lib.hid ha
  clear hu hg ha
  go_enter Tryd.func11, Tryd.ntmps11
  go_wp2_with (go_at_call 21; refine (HA.out).mono ?_; rintro e w' ⟨rfl, hs⟩; have hcell := hs.1; have hcell2 := hs.2.cell (keep_alloc _ _ _ _ HW.out) (by simp; omega); have HB := Lib.hid (below_of_set hs); clear hs)
  go_ret
  exact ⟨rfl, HB.out⟩
set_option maxHeartbeats 1000000 in
theorem At_class (c : Int) (w : World) (hg : Laid w) :
    Calls Tryd.prog 11 #[.iface 38 (.int .i64 c)] w fun ev w' => ev = .returned (.int .i64 (-1)) ∧ Below w.heap.size w w' := by
  have HA := Lib.hid (AsT_miss c 0 (.iface 38 (.int .i64 c)) ⟨w.heap.size, 0, none⟩ (w.alloc (.cells #[.pointer none] 41)) (hg.alloc _) rfl)
  clear hg
  go_enter Tryd.func11, Tryd.ntmps11
  go_wp2_with (go_at_call 21; refine (HA.out).mono ?_; rintro e w' ⟨rfl, hs⟩; have HB := Lib.hid (((Below.refl _ _).alloc (Nat.le_refl _) _).trans (hs.mono (by simp))); clear hs)
  go_ret
  exact ⟨rfl, HB.out⟩
end Go.Proofs.YtnionifbhmfkoaaDoor
