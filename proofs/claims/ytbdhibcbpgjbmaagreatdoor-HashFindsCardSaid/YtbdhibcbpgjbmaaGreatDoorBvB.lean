/- Slices read and owned; package bitvec: blank, trim. -/
import Derived.Test.YtbdhibcbpgjbmaaGreatDoorCp
import Derived.Test.YtbdhibcbpgjbmaaGreatDoorBvA
import Derived.Test.YtbdhibcbpgjbmaaGreatDoorFr
import Derived.Deep.QuietTactic
import Derived.BigQuiet
import Derived.StillTailTactics
import Derived.Deep.RegionWith
import Derived.Deep.LoopGhost
namespace Go.Proofs.YtbdhibcbpgjbmaaGreatDoor
set_option maxRecDepth 100000
open Go.RowKit
set_option linter.unusedVariables false

theorem info_u64 : (Tryz.prog.info? 56).map (fun i => (i.zero, i.size, i.bytes)) = some (some (.int .u64 0), 1, 8) := by kernel_rfl
theorem info_bool : (Tryz.prog.info? 4).map (fun i => (i.zero, i.size, i.bytes)) = some (some (.bool false), 1, 1) := by kernel_rfl
theorem info_int : (Tryz.prog.info? 3).map (fun i => (i.zero, i.size, i.bytes)) = some (some (.int .i64 0), 1, 8) := by kernel_rfl

theorem ret_b {a b : Bool} (h : a = b) : Ending.returned (.bool a) = .returned (.bool b) := by rw [h]
theorem keep_below {w w' : World} (h : Below w.heap.size w w') : ∀ a v, w.cell? a = some v → w'.cell? a = some v := fun a _ hv => (h.cell (p := a) (World.block_lt_of_cell? w _ hv)).trans hv
theorem keep_alloc (w : World) (o : Obj) : ∀ a v, w.cell? a = some v → (w.alloc o).cell? a = some v := fun _ _ hv => by
 rw [World.cell?_alloc_lt _ _ _ (World.block_lt_of_cell? w _ hv)]; exact hv
theorem bthen {w w1 w2 : World} (h : Below w.heap.size w w1) (k : Below w1.heap.size w1 w2) : Below w.heap.size w w2 := h.trans (k.mono h.size)

/-- s is a slice of n elements, those of xs. -/
def Sl (w : World) (s : Value) (n : Nat) (xs : List Value) : Prop :=
 xs.length = n ∧ ∃ ao cap, s = .slice ao n cap ∧ ∀ i (h : i < xs.length), ∃ b off, ao = some ⟨b, off, none⟩ ∧ w.cell? ⟨b, off + i, none⟩ = some xs[i]
theorem Sl.keep {w w' : World} {s : Value} {n : Nat} {xs : List Value} (hk : ∀ a v, w.cell? a = some v → w'.cell? a = some v) (h : Sl w s n xs) : Sl w' s n xs := by
 obtain ⟨h1, ao, cap, h2, h3⟩ := h
 exact ⟨h1, ao, cap, h2, fun i hi => by obtain ⟨b, off, e, hc⟩ := h3 i hi; exact ⟨b, off, e, hk _ _ hc⟩⟩
theorem Row.sl {w : World} {v : Value} {xs : List Value} (h : Row w v xs) : Sl w v xs.length xs := by
 rcases h with ⟨ao, cap, rfl, rfl⟩ | ⟨b, off, cap, h0, rfl, hc⟩
 ·exact ⟨rfl, ao, cap, rfl, fun i hi => absurd hi (by simp)⟩
 ·exact ⟨rfl, _, cap, rfl, fun i hi => ⟨b, off, rfl, hc i hi⟩⟩
theorem Sl.owned {w : World} {base : Nat} {e : TypeId} {v : Value} {n : Nat} {xs : List Value} (h : w.ownsRow base e 1 v n xs) : Sl w v n xs := by
 have hl : xs.length = n := by simpa using h.1
 rcases h.2 with ⟨rfl, rfl⟩ | ⟨g, cap, cur, rfl, hb, hg, hnc, hcm, hcs, htake⟩
 ·exact ⟨hl, none, 0, rfl, fun i hi => absurd hi (by omega)⟩
 ·refine ⟨hl, _, cap, rfl, fun i hi => ⟨g, 0, rfl, ?_⟩⟩
  rw [Nat.zero_add, h.cellAt i (by omega), List.getElem?_eq_getElem hi]

def u64s (ws : List Nat) : List Value := ws.map fun z : Nat => Value.int .u64 (z : Int)
def bools (l : List Bool) : List Value := l.map Value.bool
def ints (l : List Int) : List Value := l.map (Value.int .i64)
theorem u64s_len (ws : List Nat) : (u64s ws).length = ws.length := by simp [u64s]
theorem bools_len (l : List Bool) : (bools l).length = l.length := by simp [bools]
theorem ints_len (l : List Int) : (ints l).length = l.length := by simp [ints]
theorem u64s_get (ws : List Nat) (i : Nat) (h : i < (u64s ws).length) : (u64s ws)[i] = .int .u64 ((ws[i]'(by simpa [u64s] using h) : Nat) : Int) := by simp [u64s]
theorem bools_get (l : List Bool) (i : Nat) (h : i < (bools l).length) : (bools l)[i] = .bool (l[i]'(by simpa [bools] using h)) := by simp [bools]
theorem ints_get (l : List Int) (i : Nat) (h : i < (ints l).length) : (ints l)[i] = .int .i64 (l[i]'(by simpa [ints] using h)) := by simp [ints]

/-- v is a bit vector of the booleans l. -/
def IsBits (w : World) (v : Value) (l : List Bool) : Prop := ∃ s, v = .agg #[.int .i64 (l.length : Int), s] ∧ Sl w s ((l.length + 63) / 64) (u64s (words l))
theorem IsBits.keep {w w' : World} {v : Value} {l : List Bool} (hk : ∀ a v, w.cell? a = some v → w'.cell? a = some v) (h : IsBits w v l) : IsBits w' v l := by
 obtain ⟨s, h1, h2⟩ := h
 exact ⟨s, h1, h2.keep hk⟩
/-- .. opened: its slice's value, and each word's cell. -/
theorem IsBits.opened {w : World} {v : Value} {l : List Bool} (h : IsBits w v l) :
  ∃ ao cap, v = .agg #[.int .i64 (l.length : Int), .slice ao ((l.length + 63) / 64 : Nat) cap] ∧ ∀ i, i < (l.length + 63) / 64 → ∃ b off, ao = some ⟨b, off, none⟩ ∧ w.cell? ⟨b, off + i, none⟩ = some (.int .u64 (bw (sq l) i : Nat)) := by
 obtain ⟨s, rfl, hl, ao, cap, rfl, hc⟩ := h
 refine ⟨ao, cap, rfl, fun i hi => ?_⟩
 have hi' : i < (u64s (words l)).length := by rw [hl]; exact hi
 obtain ⟨b, off, e, hcell⟩ := hc i hi'
 refine ⟨b, off, e, ?_⟩
 rw [hcell, u64s_get]
 have : (words l)[i]'(by simpa [u64s] using hi') = bw (sq l) i := bws_get _ _ _ _
 rw [this]

/-- A slice at the head of block g, its row the call's own. -/
def Own (w : World) (base g n : Nat) (ws : List Nat) : Prop := w.ownsRow base 56 1 (.slice (some ⟨g, 0, none⟩) n n) n (u64s ws)
theorem Own.len {w : World} {base g n : Nat} {ws : List Nat} (h : Own w base g n ws) : ws.length = n := by simpa [u64s] using h.1
theorem Own.ge {w : World} {base g n : Nat} {ws : List Nat} (h : Own w base g n ws) : base ≤ g := (World.ownsRow.lt h g rfl).1
theorem Own.lt {w : World} {base g n : Nat} {ws : List Nat} (h : Own w base g n ws) : g < w.heap.size := (World.ownsRow.lt h g rfl).2
theorem Own.cell {w : World} {base g n : Nat} {ws : List Nat} (h : Own w base g n ws) (i : Nat) (hi : i < n) : w.cell? ⟨g, i, none⟩ = some (.int .u64 ((ws[i]'(by rw [h.len]; exact hi) : Nat) : Int)) := by
 have hl := h.len
 rw [World.ownsRow.cellAt h i (by omega), List.getElem?_eq_getElem (by rw [u64s_len, hl]; exact hi), u64s_get]
theorem Own.cellz {w : World} {base g n : Nat} {ws : List Nat} (h : Own w base g n ws) (i : Nat) (hi : i < n) : ∃ z, ws[i]? = some z ∧ w.cell? ⟨g, i, none⟩ = some (.int .u64 (z : Int)) :=
 ⟨_, List.getElem?_eq_getElem (by rw [h.len]; exact hi), h.cell i hi⟩
theorem Own.free {w : World} {base g n : Nat} {ws : List Nat} (h : Own w base g n ws) (i : Nat) : w.frozen? ⟨g, i, none⟩ = false := World.ownsRow.frozenAt h i
theorem Own.set {w : World} {base g n : Nat} {ws : List Nat} (h : Own w base g n ws) (i z : Nat) : Own (w.setCell ⟨g, i, none⟩ (.int .u64 (z : Int))) base g n (ws.set i z) := by
 have := (World.ownsRow.stored h i (.int .u64 (z : Int))).1
 unfold Own u64s at *
 rwa [List.map_set]
theorem Own.keep {w w' : World} {base g n : Nat} {ws : List Nat} (h : Own w base g n ws) {row : Option Nat} (hg : w.grownBy w' row) (hne : row ≠ some g) : Own w' base g n ws :=
 World.ownsRow.kept h hg (.inr (fun e => hne e.symm))
theorem Own.alloc {w : World} {base g n : Nat} {ws : List Nat} (h : Own w base g n ws) (o : Obj) : Own (w.alloc o) base g n ws := World.ownsRow.alloc h o
theorem Own.below {w w' : World} {base g n : Nat} {ws : List Nat} (h : Own w base g n ws) (hb : Below w.heap.size w w') : Own w' base g n ws :=
 World.ownsRow.kept (row := none) h ⟨hb.os, hb.tape, hb.output, hb.size, fun k hk _ => hb.block k hk⟩ (.inr (by simp [Value.ownBlock]))
theorem Own.drew {w : World} {base g n : Nat} {ws : List Nat} (h : Own w base g n ws) : Own w.drew base g n ws := h
theorem Own.isBits {w : World} {base g : Nat} {l : List Bool} (h : Own w base g ((l.length + 63) / 64) (words l)) : IsBits w (.agg #[.int .i64 (l.length : Int), .slice (some ⟨g, 0, none⟩) ((l.length + 63) / 64) ((l.length + 63) / 64)]) l :=
 ⟨_, rfl, Sl.owned h⟩

theorem grown_setCell (w : World) (a : Addr) (v : Value) : w.grownBy (w.setCell a v) (some a.block) :=
 ⟨rfl, rfl, rfl, by simp, fun k _ hne => Below.heap_setCell _ _ _ _ (fun e => hne (by rw [e]))⟩
theorem grown_trans {a b c : World} {row : Option Nat} (h : a.grownBy b row) (k : b.grownBy c row) : a.grownBy c row :=
 ⟨k.os.trans h.os, k.tape.trans h.tape, k.output.trans h.output, Nat.le_trans h.size k.size, fun i hi hne => (k.block i (Nat.lt_of_lt_of_le hi h.size) hne).trans (h.block i hi hne)⟩
theorem grown_any {a b : World} (h : a.grownBy b none) (row : Option Nat) : a.grownBy b row := ⟨h.os, h.tape, h.output, h.size, fun i hi _ => h.block i hi (by simp)⟩

theorem grown_drew {a b : World} {row : Option Nat} (h : a.grownBy b row) : a.grownBy b.drew row := ⟨h.os, h.tape, h.output, h.size, h.block⟩
/-- A block of W zero words. -/
def zeroU (W : Nat) : Array Value := madeCells (Value.int .u64 0).cells (W * 1)
theorem own_mk64 (W : Nat) (hW : W ≤ 2000000) (w : World) (base : Nat) (hb : base ≤ w.heap.size) : Own (w.alloc (.cells (zeroU W) 56)) base w.heap.size W (List.replicate W 0) := by
 have ho := World.ownsRow_lit (e := 56) (size := 1) w (zeroU W) W hb (by unfold maxLen; omega) (size_madeCells _ _)
 unfold Own
 have e : (zeroU W).toList = u64s (List.replicate W 0) := by
  rw [zeroU, show (Value.int .u64 0).cells = #[.int .u64 0] from rfl, toList_madeCells_one]; simp [u64s]
 rw [← e]; exact ho
theorem run_mk64 (W : Nat) (hW : W ≤ 2000000) (w : World) : (Instr.makeSlice 79 (.int .i64 (W : Int)) (.int .i64 (W : Int))).run Tryz.prog w = .ok (.slice (some ⟨w.heap.size, 0, none⟩) W W) (w.alloc (.cells (zeroU W) 56)) := by
 obtain ⟨i0, hi, hz0, hz1, hz2⟩ := info_parts info_u64
 have hr := run_make (P := Tryz.prog) w 79 56 i0 _ Tryz.underlying79 hi hz0 .i64 .i64 W W (by omega) (Int.le_refl _) (by rw [hz2]; omega) (by omega)
 simp only [Int.toNat_natCast, hz1] at hr
 exact hr

set_option maxHeartbeats 1000000 in
theorem blank_calls (n : Nat) (h : n ≤ 2000000) (w : World) :
  Calls Tryz.prog 113 #[.int .i64 n] w fun e w' => ∃ g, e = .returned (.agg #[.int .i64 n, .slice (some ⟨g, 0, none⟩) ((n + 63) / 64) ((n + 63) / 64)]) ∧ Own w' w.heap.size g ((n + 63) / 64) (List.replicate ((n + 63) / 64) 0) ∧ Below w.heap.size w w' := by
 have hmk := run_mk64 ((n + 63) / 64) (by omega)
 have ec : (((n + 63) / 64 : Nat) : Int) = ((n : Int) + 63) / 64 := by omega
 rw [ec] at hmk
 clear ec
 go_enter Tryz.func113, Tryz.ntmps113
 go_wp2_with (go_at_call 133; refine (wordsFor_calls _ h _).mono ?_; rintro e w' ⟨rfl, rfl⟩)
 refine bodyPost_ret (v := .agg #[.int .i64 n, .slice (some ⟨w.heap.size + 1, 0, none⟩) ((n + 63) / 64) ((n + 63) / 64)]) (by simp [results, Tryz.results113, go_sem]) rfl ⟨w.heap.size + 1, rfl, ?_, ((Below.refl _ _).alloc (Nat.le_refl _) _).alloc (by simp) _⟩
 have := own_mk64 ((n + 63) / 64) (by omega) (w.alloc (.cells #[.int .i64 n, .slice (some ⟨w.heap.size + 1, 0, none⟩) ((n + 63) / 64) ((n + 63) / 64)] 81)) w.heap.size (by simp)
 simpa using this

theorem still_tail {P : Program} {id : Nat} {Q : Exit → Act → World → Prop} {a : Act} {w : World} {l : List Oper} (n : Nat) (hm : P.follows .mixedOrders = true) (hB : Region.lexTailB .any l.toArray n = true)
  (h : wpStill P l.toArray w.drew (fun a' => wpList P l.toArray Q (l.drop n) a' w.drew) (l.take n) a) : (Code.region id l.toArray true).wp P Q a w := wp_region_still_tail n hm hB h
theorem stl {P : Program} {f : FuncId} {args : Array Value} {w : World} {v : Value} (h : Calls P f args w fun e w' => e = .returned v ∧ w = w') : Calls P f args w fun e w' => e = .returned v ∧ w' = w :=
 h.mono fun _ _ ⟨h1, h2⟩ => ⟨h1, h2.symm⟩
theorem trimmed_hit {n : Nat} {ws : List Nat} {z : Nat} (hz : n % 64 ≠ 0) (hl : ws.length = (n + 63) / 64) (hg : ws[(n + 63) / 64 - 1]? = some z) : trimmed n ws = ws.set ((n + 63) / 64 - 1) (z &&& (2 ^ (n % 64) - 1)) := by
 unfold trimmed; rw [if_neg hz, hl, hg]; rfl
set_option maxHeartbeats 1000000 in
theorem trim_calls (n g base : Nat) (ws : List Nat) (h : n ≤ 2000000) (w : World) (ho : Own w base g ((n + 63) / 64) ws) (hlt : ∀ z ∈ ws, z < 18446744073709551616) :
  Calls Tryz.prog 124 #[.agg #[.int .i64 n, .slice (some ⟨g, 0, none⟩) ((n + 63) / 64) ((n + 63) / 64)]] w fun e w' => e = .returned (.tuple #[]) ∧ Own w' base g ((n + 63) / 64) (trimmed n ws) ∧ w.grownBy w' (some g) := by
 by_cases hz : n % 64 = 0
 ·have HO := Lib.hid ho
  have HT := Lib.hid (show trimmed n ws = ws by simp [trimmed, hz])
  clear ho
  go_enter Tryz.func124, Tryz.ntmps124
  go_wp2
  go_end0
  exact ⟨rfl, by rw [HT.out]; exact HO.out.alloc _, World.grownBy_alloc _ _ _⟩
 ·have hgl := ho.lt
  have hg0 := ho.ge
  obtain ⟨k, hk⟩ : ∃ k, (n + 63) / 64 = k + 1 := ⟨(n + 63) / 64 - 1, by omega⟩
  obtain ⟨z, hg⟩ : ∃ z, ws[(n + 63) / 64 - 1]? = some z := ⟨_, List.getElem?_eq_getElem (by rw [ho.len]; omega)⟩
  have hzl := hlt z (List.mem_of_getElem? hg)
  have HT := Lib.hid (trimmed_hit hz ho.len hg)
  rw [hk] at ho hg ⊢
  have HO := Lib.hid ho; have HK := Lib.hid hk
  have hkb : k ≤ 40000 := by omega
  have hc0 := (ho.alloc (.cells #[.int .i64 n, .slice (some ⟨g, 0, none⟩) (k + 1) (k + 1)] 81)).cell k (by omega)
  have hc : (w.alloc (.cells #[.int .i64 n, .slice (some ⟨g, 0, none⟩) (k + 1) (k + 1)] 81)).cell? ⟨g, k, none⟩ = some (.int .u64 z) := by
   rw [hc0]; rw [Nat.add_sub_cancel, List.getElem?_eq_getElem (by rw [ho.len]; omega)] at hg; rw [Option.some.inj hg]
  have hf := (ho.alloc (.cells #[.int .i64 n, .slice (some ⟨g, 0, none⟩) (k + 1) (k + 1)] 81)).free k
  have HA := Lib.hid (u64_and_nat z (2 ^ (n % 64) - 1) hzl (Nat.lt_of_lt_of_le (Nat.sub_lt (Nat.two_pow_pos _) (by decide)) (show 2 ^ (n % 64) ≤ 2 ^ 64 from Nat.pow_le_pow_right (by decide) (by omega))))
  clear ho hg hc0 hlt hk
  go_enter Tryz.func124, Tryz.ntmps124
  go_wp2
  have q1 : IntKind.i64.wrap (k : Int) = k := IntWalk.i64_in _ (by omega)
  have q2 : (k : Int) < (k : Int) + 1 := by omega
  refine still_tail 12 (by kernel_rfl) (by kernel_rfl) ?_
  simp only [List.take_succ_cons, List.take_zero, List.drop_succ_cons, List.drop_zero]
  repeat (refine wpStill_step (fun K hK => ?_); go_simp; first | (refine hK _ ?_; clear hK K) | (refine ⟨_, stl (low_calls _ (by omega) (by omega) _), hK _ ?_⟩; clear hK K))
  refine wpStill_nil ?_
  go_wp2
  go_end0
  have e1 : ((n : Int) % 64).toNat = n % 64 := by omega
  refine ⟨rfl, ?_, ?_⟩
  ·rw [HT.out, HK.out, Nat.add_sub_cancel]
   first | rw [HA.out] | rw [e1, HA.out]
   exact ((HO.out.set k _).alloc _).drew
  ·exact grown_drew (grown_trans (grown_setCell w ⟨g, k, none⟩ _) (World.grownBy_alloc _ _ _))

theorem blank_K (n K : Nat) (h : n ≤ 2000000) (hK : (n + 63) / 64 = K) (w : World) :
  Calls Tryz.prog 113 #[.int .i64 n] w fun e w' => ∃ g, e = .returned (.agg #[.int .i64 n, .slice (some ⟨g, 0, none⟩) K K]) ∧ Own w' w.heap.size g K (List.replicate K 0) ∧ Below w.heap.size w w' := by
 subst hK; exact blank_calls n h w
theorem trim_K (n K g base : Nat) (ws : List Nat) (h : n ≤ 2000000) (hK : (n + 63) / 64 = K) (w : World) (ho : Own w base g K ws) (hlt : ∀ z ∈ ws, z < 18446744073709551616) :
  Calls Tryz.prog 124 #[.agg #[.int .i64 n, .slice (some ⟨g, 0, none⟩) K K]] w fun e w' => e = .returned (.tuple #[]) ∧ Own w' base g K (trimmed n ws) ∧ w.grownBy w' (some g) := by
 subst hK; exact trim_calls n g base ws h w ho hlt
theorem clamp_nat (n most : Int) (m : Nat) (h : min (max n 0) most = m) (w : World) :
  Calls Tryz.prog 123 #[.int .i64 n, .int .i64 most] w fun e w' => e = .returned (.int .i64 m) ∧ w = w' := by
 rw [← h]; exact clamp_calls n most w
theorem below_of_grown {B g : Nat} {w w' : World} (h : w.grownBy w' (some g)) (hg : B ≤ g) (hs : B ≤ w.heap.size) : Below B w w' :=
 (Below.refl _ _).grown h hs (fun k hk => by cases hk; exact hg)
theorem grown_frozen {w w' : World} {row : Option Nat} (hg : w.grownBy w' row) {a : Addr} (hl : a.block < w.heap.size) (hne : some a.block ≠ row) : w'.frozen? a = w.frozen? a :=
 World.frozen?_of_block (hg.block a.block hl hne)
theorem bws_lt (F : Nat → Bool) (W : Nat) : ∀ z ∈ bws F W, z < 18446744073709551616 := by
 intro z hz
 obtain ⟨i, _, rfl⟩ := List.mem_map.1 hz
 exact bw_lt F i
theorem part_bws (F : Nat → Bool) (W : Nat) : part (bw F) W W = bws F W := part_full _ _

/-- A block of two cells, known, not frozen. -/
def At2 (w : World) (b : Nat) (x y : Value) : Prop := b < w.heap.size ∧ w.cell? ⟨b, 0, none⟩ = some x ∧ w.cell? ⟨b, 1, none⟩ = some y ∧ ∀ o, w.frozen? ⟨b, o, none⟩ = false
theorem At2.new (w : World) (x y : Value) (t : TypeId) : At2 (w.alloc (.cells #[x, y] t)) w.heap.size x y := ⟨by simp, by simp, by simp, fun o => by simp⟩
theorem At2.grown {w w' : World} {b : Nat} {x y : Value} (h : At2 w b x y) {row : Option Nat} (hg : w.grownBy w' row) (hne : some b ≠ row) : At2 w' b x y :=
 ⟨Nat.lt_of_lt_of_le h.1 hg.size, hg.cell h.2.1 hne, hg.cell h.2.2.1 hne, fun o => (grown_frozen hg h.1 hne).trans (h.2.2.2 o)⟩
theorem At2.below {w w' : World} {b : Nat} {x y : Value} (h : At2 w b x y) (hb : Below w.heap.size w w') : At2 w' b x y :=
 ⟨Nat.lt_of_lt_of_le h.1 hb.size, keep_below hb _ _ h.2.1, keep_below hb _ _ h.2.2.1, fun o => (hb.frozen (p := ⟨b, o, none⟩) h.1).trans (h.2.2.2 o)⟩
theorem At2.alloc {w : World} {b : Nat} {x y : Value} (h : At2 w b x y) (o : Obj) : At2 (w.alloc o) b x y := h.grown (row := none) (World.grownBy_alloc w o none) (by simp)
theorem grown_refl (w : World) (row : Option Nat) : w.grownBy w row := ⟨rfl, rfl, rfl, Nat.le_refl _, fun _ _ _ => rfl⟩
theorem below_grown {w w' : World} (h : Below w.heap.size w w') : w.grownBy w' none := ⟨h.os, h.tape, h.output, h.size, fun k hk _ => h.block k hk⟩
theorem Sl.grown {w w' : World} {s : Value} {n : Nat} {xs : List Value} (h : Sl w s n xs) {g : Nat} (hg : w.grownBy w' (some g)) (hb : ∀ ao, s.ownBlock = some ao → ao ≠ g) : Sl w' s n xs := by
 obtain ⟨h1, ao, cap, rfl, h3⟩ := h
 exact ⟨h1, ao, cap, rfl, fun i hi => by
  obtain ⟨b, off, rfl, hc⟩ := h3 i hi
  exact ⟨b, off, rfl, hg.cell hc (fun e => hb b rfl (Option.some.inj e))⟩⟩

theorem finish_bits {w2 : World} {base g K b0 m : Nat} {ws : List Nat} {l : List Bool} (x y : Value) (ho : Own w2 base g K ws) (hw : ws = words l) (hm : l.length = m) (hK : (m + 63) / 64 = K) (hne : b0 ≠ g) :
  IsBits ((w2.setCell ⟨b0, 0, none⟩ x).setCell ⟨b0, 1, none⟩ y) (.agg #[.int .i64 (m : Int), .slice (some ⟨g, 0, none⟩) K K]) l := by
 subst hw; subst hm; subst hK
 exact Own.isBits ((ho.keep (grown_setCell _ _ _) (by simpa using hne)).keep (grown_setCell _ _ _) (by simpa using hne))
theorem below_set2 {w w2 : World} {b0 : Nat} (x y : Value) (h : Below w.heap.size w w2) (hb : w.heap.size ≤ b0) : Below w.heap.size w ((w2.setCell ⟨b0, 0, none⟩ x).setCell ⟨b0, 1, none⟩ y) :=
 (h.setCell (by exact hb) _).setCell (by exact hb) _

theorem cell_set2_alloc {w2 : World} {b0 : Nat} {u v : Value} (x y : Value) (o : Obj) (hl : b0 < w2.heap.size) (h0 : w2.cell? ⟨b0, 0, none⟩ = some u) (h1 : w2.cell? ⟨b0, 1, none⟩ = some v) :
  (((w2.setCell ⟨b0, 0, none⟩ x).setCell ⟨b0, 1, none⟩ y).alloc o).cell? ⟨b0, 0, none⟩ = some x ∧ (((w2.setCell ⟨b0, 0, none⟩ x).setCell ⟨b0, 1, none⟩ y).alloc o).cell? ⟨b0, 1, none⟩ = some y := by
 have hl' : b0 < ((w2.setCell ⟨b0, 0, none⟩ x).setCell ⟨b0, 1, none⟩ y).heap.size := by simpa using hl
 rw [World.cell?_alloc_lt _ _ _ hl', World.cell?_alloc_lt _ _ _ hl']
 have e1 : (w2.setCell ⟨b0, 0, none⟩ x).cell? ⟨b0, 1, none⟩ = some v := (World.cell?_setCell_other _ _ _ _ (by simp)).trans h1
 exact ⟨(World.cell?_setCell_other _ _ _ _ (by simp)).trans (World.cell?_setCell_same _ _ _ h0), World.cell?_setCell_same _ _ _ e1⟩

theorem owns_shape {w : World} {base : Nat} {e : TypeId} {v : Value} {n : Nat} {xs : List Value} (h : w.ownsRow base e 1 v n xs) (hn : 0 < n) : ∃ g cap, v = .slice (some ⟨g, 0, none⟩) n cap ∧ base ≤ g ∧ g < w.heap.size ∧ n ≤ cap ∧ cap ≤ maxLen := by
 rcases h.2 with ⟨rfl, rfl⟩ | ⟨g, cap, cur, rfl, hb, hg, hnc, hcm, hcs, htake⟩
 ·omega
 ·exact ⟨g, cap, rfl, hb, (World.ownsRow.lt h g rfl).2, hnc, hcm⟩
theorem owns_cell {w : World} {base : Nat} {e : TypeId} {g n cap : Nat} {xs : List Value} (h : w.ownsRow base e 1 (.slice (some ⟨g, 0, none⟩) n cap) n xs) (i : Nat) (hi : i < xs.length) : w.cell? ⟨g, i, none⟩ = some xs[i] := by
 have hl : xs.length = n := by simpa using h.1
 rw [h.cellAt i (by omega), List.getElem?_eq_getElem hi]
theorem owns_len {w : World} {base : Nat} {e : TypeId} {v : Value} {n : Nat} {xs : List Value} (h : w.ownsRow base e 1 v n xs) : xs.length = n := by simpa using h.1
theorem owns_below {w w' : World} {base : Nat} {e : TypeId} {v : Value} {n : Nat} {xs : List Value} (h : w.ownsRow base e 1 v n xs) (hb : Below w.heap.size w w') : w'.ownsRow base e 1 v n xs :=
 World.ownsRow.kept (row := none) h ⟨hb.os, hb.tape, hb.output, hb.size, fun k hk _ => hb.block k hk⟩ (by cases hv : v.ownBlock <;> simp)
theorem grown_below {B : Nat} {a w w' : World} {v : Value} {base : Nat} {e : TypeId} {n : Nat} {xs : List Value} (h : Below B a w) (ho : w.ownsRow base e 1 v n xs) (hB : B ≤ base) (hs : B ≤ w.heap.size) (hg : w.grownBy w' v.ownBlock) : Below B a w' :=
 h.grown hg hs (fun k hk => by have := (ho.lt k hk).1; omega)
theorem _root_.Go.World.ownsRow.drewN' {w : World} {base : Nat} {e : TypeId} {size : Nat} {v : Value} {n : Nat} {xs : List Value} (h : w.ownsRow base e size v n xs) (q : Nat) : (w.drewN q).ownsRow base e size v n xs := h
theorem bthen' {w w1 w2 : World} (h : Below w.heap.size w w1) (k : Below w1.heap.size w1 w2) : Below w.heap.size w w2 := h.trans (k.mono h.size)
theorem grown_drewN (w : World) (n : Nat) (row : Option Nat) : w.grownBy (w.drewN n) row := ⟨rfl, rfl, rfl, Nat.le_refl _, fun _ _ _ => rfl⟩
theorem Below.drewN' {B : Nat} {w w' : World} (h : Below B w w') (n : Nat) : Below B w (w'.drewN n) := ⟨h.os, h.tape, h.output, h.size, h.block⟩
theorem IsBits.set {w : World} {v : Value} {l : List Bool} (h : IsBits w v l) {p : Addr} {u : Value} (hp : w.cell? p = some u) (hu : ∀ z : Nat, u ≠ .int .u64 (z : Int)) (x : Value) : IsBits (w.setCell p x) v l := by
 obtain ⟨s, rfl, hl, ao, cap, rfl, hc⟩ := h
 refine ⟨_, rfl, hl, ao, cap, rfl, fun i hi => ?_⟩
 obtain ⟨b, off, e, hcell⟩ := hc i hi
 refine ⟨b, off, e, ?_⟩
 rw [World.cell?_setCell_other _ _ _ _ (fun ep => ?_)]
 ·exact hcell
 ·rw [ep, hcell, u64s_get] at hp
  exact hu _ (Option.some.inj hp).symm
theorem IsBits.set2 {w : World} {v : Value} {l : List Bool} (h : IsBits w v l) {b : Nat} (hA : At2 w b (.int .i64 0) (.slice none 0 0)) (x y : Value) : IsBits ((w.setCell ⟨b, 0, none⟩ x).setCell ⟨b, 1, none⟩ y) v l := by
 have h1 := h.set hA.2.1 (fun z e => by simp at e) x
 have e1 : (w.setCell ⟨b, 0, none⟩ x).cell? ⟨b, 1, none⟩ = some (.slice none 0 0) := (World.cell?_setCell_other _ _ _ _ (by simp)).trans hA.2.2.1
 exact h1.set e1 (fun z e => by simp at e) y
/-- s is a slice of n elements, those of xs, its cells in blocks that ok allows. -/
def Slx (w : World) (ok : Nat → Prop) (s : Value) (n : Nat) (xs : List Value) : Prop :=
 xs.length = n ∧ ∃ ao cap, s = .slice ao n cap ∧ ∀ i (h : i < xs.length), ∃ b off, ao = some ⟨b, off, Option.none⟩ ∧ ok b ∧ w.cell? ⟨b, off + i, Option.none⟩ = some xs[i]
/-- .. and its capacity is no less than its length. -/
def Slc (w : World) (ok : Nat → Prop) (s : Value) (n : Nat) (xs : List Value) : Prop :=
 Slx w ok s n xs ∧ ∃ ao cap, s = .slice ao n cap ∧ n ≤ cap ∧ cap ≤ maxLen
/-- Worlds in which what lies in blocks that ok allows is as it was. -/
def Kept (ok : Nat → Prop) (w w' : World) : Prop := ∀ a v, ok a.block → w.cell? a = some v → w'.cell? a = some v
theorem Slx.keep {w w' : World} {ok ok' : Nat → Prop} {s : Value} {n : Nat} {xs : List Value} (hk : Kept ok w w') (hm : ∀ b, b < w.heap.size → ok b → ok' b) (h : Slx w ok s n xs) : Slx w' ok' s n xs := by
 obtain ⟨h1, ao, cap, h2, h3⟩ := h
 refine ⟨h1, ao, cap, h2, fun i hi => ?_⟩
 obtain ⟨b, off, e, hb, hc⟩ := h3 i hi
 exact ⟨b, off, e, hm b (World.block_lt_of_cell? w _ hc) hb, hk _ _ hb hc⟩
theorem Slc.keep {w w' : World} {ok ok' : Nat → Prop} {s : Value} {n : Nat} {xs : List Value} (hk : Kept ok w w') (hm : ∀ b, b < w.heap.size → ok b → ok' b) (h : Slc w ok s n xs) : Slc w' ok' s n xs := ⟨h.1.keep hk hm, h.2⟩
theorem Slx.sl {w : World} {ok : Nat → Prop} {s : Value} {n : Nat} {xs : List Value} (h : Slx w ok s n xs) : Sl w s n xs := by
 obtain ⟨h1, ao, cap, h2, h3⟩ := h
 exact ⟨h1, ao, cap, h2, fun i hi => by obtain ⟨b, off, e, _, hc⟩ := h3 i hi; exact ⟨b, off, e, hc⟩⟩
theorem Slx.of_sl {w : World} {s : Value} {n : Nat} {xs : List Value} (h : Sl w s n xs) : Slx w (fun _ => True) s n xs := by
 obtain ⟨h1, ao, cap, h2, h3⟩ := h
 exact ⟨h1, ao, cap, h2, fun i hi => by obtain ⟨b, off, e, hc⟩ := h3 i hi; exact ⟨b, off, e, trivial, hc⟩⟩
theorem Slx.owned {w : World} {base : Nat} {e : TypeId} {v : Value} {n : Nat} {xs : List Value} (h : w.ownsRow base e 1 v n xs) : Slx w (fun b => base ≤ b) v n xs := by
 have hl : xs.length = n := by simpa using h.1
 rcases h.2 with ⟨rfl, rfl⟩ | ⟨g, cap, cur, rfl, hb, hg, hnc, hcm, hcs, htake⟩
 ·exact ⟨hl, Option.none, 0, rfl, fun i hi => absurd hi (by omega)⟩
 ·refine ⟨hl, _, cap, rfl, fun i hi => ⟨g, 0, rfl, hb, ?_⟩⟩
  rw [Nat.zero_add, h.cellAt i (by omega), List.getElem?_eq_getElem hi]
theorem Slc.owned {w : World} {base : Nat} {e : TypeId} {v : Value} {n : Nat} {xs : List Value} (h : w.ownsRow base e 1 v n xs) : Slc w (fun b => base ≤ b) v n xs := by
 refine ⟨Slx.owned h, ?_⟩
 rcases h.2 with ⟨rfl, rfl⟩ | ⟨g, cap, cur, rfl, hb, hg, hnc, hcm, hcs, htake⟩
 ·exact ⟨_, _, rfl, Nat.le_refl _, by unfold maxLen; omega⟩
 ·exact ⟨_, _, rfl, hnc, hcm⟩
theorem RowC.slc {w : World} {v : Value} {xs : List Value} (h : RowC w v xs) : Slc w (fun _ => True) v xs.length xs := ⟨Slx.of_sl h.1.sl, by obtain ⟨ao, cap, e, h1, h2⟩ := h.2; exact ⟨ao, cap, e, h1, h2⟩⟩
theorem Slc.nil (w : World) (ok : Nat → Prop) : Slc w ok (.slice Option.none 0 0) 0 [] := ⟨⟨rfl, _, _, rfl, fun i hi => absurd hi (by simp)⟩, _, _, rfl, Nat.le_refl _, by unfold maxLen; omega⟩
theorem Slx.len {w : World} {ok : Nat → Prop} {s : Value} {n : Nat} {xs : List Value} (h : Slx w ok s n xs) : xs.length = n := h.1
theorem Slc.opened {w : World} {ok : Nat → Prop} {s : Value} {n : Nat} {xs : List Value} (h : Slc w ok s n xs) : ∃ ao cap, s = .slice ao n cap ∧ n ≤ cap ∧ cap ≤ maxLen ∧ xs.length = n ∧ ∀ i (h : i < xs.length), ∃ b off, ao = some ⟨b, off, Option.none⟩ ∧ ok b ∧ w.cell? ⟨b, off + i, Option.none⟩ = some xs[i] := by
 obtain ⟨⟨h1, ao, cap, rfl, h3⟩, ao', cap', e, h4, h5⟩ := h
 cases e
 exact ⟨ao, cap, rfl, h4, h5, h1, h3⟩
theorem Kept.all {ok : Nat → Prop} {w w' : World} (h : ∀ a v, w.cell? a = some v → w'.cell? a = some v) : Kept ok w w' := fun a v _ => h a v
theorem Kept.below {ok : Nat → Prop} {w w' : World} (h : Below w.heap.size w w') : Kept ok w w' := Kept.all (keep_below h)
theorem Kept.refl (ok : Nat → Prop) (w : World) : Kept ok w w := fun _ _ _ h => h
theorem Kept.trans {ok : Nat → Prop} {w w1 w2 : World} (h : Kept ok w w1) (k : Kept ok w1 w2) : Kept ok w w2 := fun a v o hv => k a v o (h a v o hv)
theorem Kept.setCell {ok : Nat → Prop} (w : World) (p : Addr) (x : Value) (h : ¬ ok p.block) : Kept ok w (w.setCell p x) := fun a v o hv => by
 rw [World.cell?_setCell_other _ _ _ _ (fun e => h (by rw [e]; exact o))]; exact hv

theorem Slc.below {w w' : World} {ok : Nat → Prop} {s : Value} {n : Nat} {xs : List Value} (h : Slc w ok s n xs) (hb : Below w.heap.size w w') : Slc w' ok s n xs := h.keep (Kept.below hb) (fun _ _ h => h)
theorem Slc.any {w : World} {ok : Nat → Prop} {s : Value} {n : Nat} {xs : List Value} (h : Slc w ok s n xs) : Slc w (fun _ => True) s n xs := h.keep (Kept.refl _ _) (fun _ _ _ => trivial)
/-- Booleans, and the blocks that they may lie in. -/
def IsBitsX (w : World) (ok : Nat → Prop) (v : Value) (l : List Bool) : Prop := ∃ s, v = .agg #[.int .i64 (l.length : Int), s] ∧ Slx w ok s ((l.length + 63) / 64) (u64s (words l))
theorem IsBitsX.bits {w : World} {ok : Nat → Prop} {v : Value} {l : List Bool} (h : IsBitsX w ok v l) : IsBits w v l := by
 obtain ⟨s, h1, h2⟩ := h
 exact ⟨s, h1, h2.sl⟩
theorem IsBitsX.keep {w w' : World} {ok ok' : Nat → Prop} {v : Value} {l : List Bool} (hk : Kept ok w w') (hm : ∀ b, b < w.heap.size → ok b → ok' b) (h : IsBitsX w ok v l) : IsBitsX w' ok' v l := by
 obtain ⟨s, h1, h2⟩ := h
 exact ⟨s, h1, h2.keep hk hm⟩
theorem finish_bitsX {w2 : World} {base g K b0 m : Nat} {ws : List Nat} {l : List Bool} (x y : Value) (ho : Own w2 base g K ws) (hw : ws = words l) (hm : l.length = m) (hK : (m + 63) / 64 = K) (hne : b0 ≠ g) :
  IsBitsX ((w2.setCell ⟨b0, 0, none⟩ x).setCell ⟨b0, 1, none⟩ y) (fun b => base ≤ b) (.agg #[.int .i64 (m : Int), .slice (some ⟨g, 0, none⟩) K K]) l := by
 subst hw; subst hm; subst hK
 exact ⟨_, rfl, Slx.owned ((ho.keep (grown_setCell _ _ _) (by simpa using hne)).keep (grown_setCell _ _ _) (by simpa using hne))⟩
theorem At2.go {w w' : World} {b : Nat} {x y : Value} (h : At2 w b x y) (hB : Below w.heap.size w w') : Hid (At2 w' b x y) := Lib.hid (h.below hB)
theorem TabAt.go {w w' : World} (h : TabAt w) (hB : Below w.heap.size w w') : Hid (TabAt w') := Lib.hid (fun j hj => keep_below hB _ _ (h j hj))
theorem IsBits.go {w w' : World} {v : Value} {l : List Bool} (h : IsBits w v l) (hB : Below w.heap.size w w') : Hid (IsBits w' v l) := Lib.hid (h.keep (keep_below hB))
theorem IsBitsX.go {w w' : World} {ok : Nat → Prop} {v : Value} {l : List Bool} (h : IsBitsX w ok v l) (hB : Below w.heap.size w w') : Hid (IsBitsX w' ok v l) := Lib.hid (h.keep (Kept.below hB) (fun _ _ h => h))
theorem Slc.go {w w' : World} {ok : Nat → Prop} {s : Value} {n : Nat} {xs : List Value} (h : Slc w ok s n xs) (hB : Below w.heap.size w w') : Hid (Slc w' ok s n xs) := Lib.hid (h.below hB)
theorem drwn (w : World) : ∃ w', w.drew = w' ∧ Below w.heap.size w w' := ⟨_, rfl, Below.drewN' (Below.refl _ _) 1⟩
theorem ahd2 (w : World) (x y : Value) (t : TypeId) : ∃ w', w.alloc (.cells #[x, y] t) = w' ∧ Below w.heap.size w w' ∧ At2 w' w.heap.size x y := ⟨_, rfl, (Below.refl _ _).alloc (Nat.le_refl _) _, At2.new _ _ _ _⟩
end Go.Proofs.YtbdhibcbpgjbmaaGreatDoor
