/- Merged: FlA, FlB, FlC, FlD, FlE, FlS, FlT, FlU, FlV, FlW, FlX, FlY, FlZ, FlM, FmA, FlN, FmB, FmC, FmD. -/
import Derived.Test.YtbacchbcanlciaaGreatDoorMgVe1
import Derived.Test.YtbacchbcanlciaaGreatDoorMgVa1
import Derived.Test.YtbacchbcanlciaaGreatDoorMgBv1
import Derived.Test.YtbacchbcanlciaaGreatDoorMgSh1
namespace Go.Proofs.YtbacchbcanlciaaGreatDoor
set_option maxRecDepth 100000
open Go.RowKit
set_option linter.unusedVariables false

theorem info_bool1 : (Tryz.prog.info? 4).map (fun i => (i.zero, i.size, i.bytes)) = some (some (.bool false), 1, 1) := by kernel_rfl
end Go.Proofs.YtbacchbcanlciaaGreatDoor

namespace Go.Proofs.YtbacchbcanlciaaGreatDoor
set_option maxRecDepth 100000
open Go.RowKit
set_option linter.unusedVariables false

end Go.Proofs.YtbacchbcanlciaaGreatDoor

namespace Go.Proofs.YtbacchbcanlciaaGreatDoor
set_option maxRecDepth 100000
open Go.RowKit Fl
set_option linter.unusedVariables false

def blankA : List Int × VV := ([0], .bits [])

theorem fnumbers_calls {ok : Nat → Prop} (v : Value) (l : List Nat) (w : World) (hv : Slc w ok v l.length (f64s l)) (hm : l.length ≤ 1048576) (hf : ∀ x ∈ l, Fnt x) (hT : TabAt w) :
  Calls Tryz.prog 174 #[v] w fun e w' => ∃ u, e = .returned (.agg #[u]) ∧ IsV w' (fun b => w.heap.size ≤ b) u (VV.floats (l.map ze)).sq ∧ Below w.heap.size w w' := by
 have HV := Lib.hid hv; have HF := Lib.hid hf; have HT := Lib.hid hT
 obtain ⟨ao, cap, rfl, _⟩ := hv.opened
 clear hv hf hT
 obtain ⟨W1, hW1⟩ : ∃ W1, W1 = w.alloc (.cells #[.nilIface] 25) := ⟨_, rfl⟩
 have HB := Lib.hid (show Below w.heap.size w W1 by rw [hW1]; exact below_new _ _)
 have HR := Lib.hid (show At1 W1 w.heap.size .nilIface by rw [hW1]; exact At1.new w _ _)
 have hfold := hW1.symm
 clear hW1
 go_enter Tryz.func174, Tryz.ntmps174
 go_wp2_with fail
 clear hfold
 refine (numbers_yes _ l _ (HV.out.below HB.out) hm HF.out (fun j hj => keep_below HB.out _ _ (HT.out j hj))).mono ?_
 rintro e W2 ⟨u', rfl, hu, hB2⟩
 have hsu := hu.store
 have HU := Lib.hid (show IsV W2 (fun b => W1.heap.size ≤ b) u' _ from hu)
 obtain ⟨W3, hW3⟩ : ∃ W3, W3 = W2.alloc (.cells #[u'] 25) := ⟨_, rfl⟩
 have HN := Lib.hid (show Below W2.heap.size W2 W3 by rw [hW3]; exact below_new _ _)
 have HU3 := Lib.hid (HU.out.grow HN.out)
 have HV := Lib.hid (show At1 W3 W2.heap.size u' by rw [hW3]; exact At1.new _ _ _)
 have HB3 := Lib.hid ((HB.out.trans (hB2.mono HB.out.size)).trans (HN.out.mono (Nat.le_trans HB.out.size hB2.size)))
 obtain ⟨_, r0, rf⟩ := (HR.out.below hB2).below HN.out
 have rf0 := rf 0
 have HSZ := Lib.hid HR.out.1
 obtain ⟨_, v0, _⟩ := HV.out
 have HFW := Lib.hid hW3.symm; clear hu hB2 hW3 rf; have hfold := HFW.out
 go_wp2_with fail
 refine bodyPost_ret (v := .agg #[u']) (by simp [results, Tryz.results174, go_sem, r0]) rfl ⟨_, rfl, ?_, HB3.out.setCell (Nat.le_refl _) _⟩
 exact HU3.out.keep (Kept.setCell _ _ _ (by have := HSZ.out; simp <;> omega)) (fun b _ (h : W1.heap.size ≤ b) => by have := HSZ.out; have := HB.out.size; omega)
noncomputable def VV.sel (V : VV) (at_ : List Int) : VV :=
 match V with
 | .bits l => .bits (at_.map (sqI l)) | .chars l => .chars (at_.map (atI l 32)) | .boxes l => .boxes (at_.map (atI l blankA))
 | V => (VV.floats (at_.map (atI V.nums 0))).sq
theorem VV.text_len {V : VV} (h : V.cls = 1) : V.text.length = V.len := by cases V <;> simp_all [VV.cls, VV.text, VV.len]
theorem VV.packed_len {V : VV} (h : V.isBit = true) : V.packed.length = V.len := by cases V <;> simp_all [VV.isBit, VV.packed, VV.len]
theorem VV.packed_ok {V : VV} (h : V.ok) : V.packed.length ≤ 1048576 := by
 cases V <;> simp_all [VV.ok, VV.packed]
end Go.Proofs.YtbacchbcanlciaaGreatDoor

namespace Go.Proofs.YtbacchbcanlciaaGreatDoor
set_option maxRecDepth 100000
open Go.RowKit Fl
set_option linter.unusedVariables false

end Go.Proofs.YtbacchbcanlciaaGreatDoor

namespace Go.Proofs.YtbacchbcanlciaaGreatDoor
set_option maxRecDepth 100000
open Go.RowKit Fl
set_option linter.unusedVariables false

end Go.Proofs.YtbacchbcanlciaaGreatDoor

namespace Go.Proofs.YtbacchbcanlciaaGreatDoor
set_option maxRecDepth 100000
open Go.RowKit Fl
set_option linter.unusedVariables false

end Go.Proofs.YtbacchbcanlciaaGreatDoor

namespace Go.Proofs.YtbacchbcanlciaaGreatDoor
set_option maxRecDepth 100000
open Go.RowKit Fl
set_option linter.unusedVariables false

def cutL (x n : Nat) : List Int := (List.range n).map fun (i : Nat) => (x : Int) + (i : Int)
def cl8 (a : Int) (n : Nat) : Nat := (min (max a 0) (n : Int)).toNat
noncomputable def VV.cut (V : VV) (a b : Int) : VV := if V.isBit = true then .bits ((V.packed.take (cl8 b V.len)).drop (cl8 a V.len)) else V.sel (cutL (cl8 a V.len) (cl8 b V.len - cl8 a V.len))

end Go.Proofs.YtbacchbcanlciaaGreatDoor

namespace Go.Proofs.YtbacchbcanlciaaGreatDoor
set_option maxRecDepth 100000
open Go.RowKit
set_option linter.unusedVariables false

def RowsG {α : Type} (f : α → Value) (w : World) (ok : Nat → Prop) (v : Value) (L : List (List α)) : Prop :=
 ∃ ao cap, v = .slice ao L.length cap ∧ ∀ i (h : i < L.length), ∃ b off u, ao = some ⟨b, off, none⟩ ∧ w.cell? ⟨b, off + i, none⟩ = some u ∧ Slc w ok u L[i].length (L[i].map f)
theorem RowsG.below {α : Type} {f : α → Value} {w w' : World} {ok : Nat → Prop} {v : Value} {L : List (List α)} (h : RowsG f w ok v L) (hb : Below w.heap.size w w') : RowsG f w' ok v L := by
 obtain ⟨ao, cap, rfl, hc⟩ := h
 refine ⟨ao, cap, rfl, fun i hi => ?_⟩
 obtain ⟨b, off, u, e, h1, h2⟩ := hc i hi
 exact ⟨b, off, u, e, keep_below hb _ _ h1, h2.below hb⟩
theorem map_one {α : Type} (f : α → Value) (h : ∀ x, (f x).oneCell' = true) (l : List α) : ∀ u ∈ l.map f, u.oneCell' = true := by
 intro u hu; obtain ⟨z, _, rfl⟩ := List.mem_map.1 hu; exact h z
theorem flatG_take {α : Type} {L : List (List α)} {k : Nat} {l : List α} (h : L[k]? = some l) : (L.take (k + 1)).flatten = (L.take k).flatten ++ l := by
 obtain ⟨hk, e⟩ := List.getElem?_eq_some_iff.1 h
 rw [List.take_succ_eq_append_getElem hk, List.flatten_append, e]; simp
theorem flatG_len {α : Type} {L : List (List α)} {k : Nat} {l : List α} (h : L[k]? = some l) : (L.take (k + 1)).flatten.length = (L.take k).flatten.length + l.length := by rw [flatG_take h, List.length_append]
theorem flatG_le {α : Type} (L : List (List α)) : ∀ d k, k + d = L.length → (L.take k).flatten.length ≤ L.flatten.length := by
 intro d
 induction d with
 | zero => intro k h; rw [List.take_of_length_le (by omega)]; exact Nat.le_refl _
 | succ d ih =>
  intro k h
  have := ih (k + 1) (by omega)
  rw [flatG_len (List.getElem?_eq_getElem (show k < L.length by omega))] at this
  omega

set_option maxHeartbeats 2000000 in
theorem growF_calls (n : Nat) (hn : n ≤ 2000000) (w : World) :
  Calls Tryz.prog 224 #[.slice none 0 0, .int .i64 (n : Int)] w fun e w' => ∃ v, e = .returned v ∧ w'.ownsRow w.heap.size 42 1 v 0 [] ∧ Below w.heap.size w w' := by
 obtain ⟨i0, hi, hz0, hz1, hz2⟩ := info_parts info_f64
 by_cases h0 : n = 0
 ·subst h0
  go_enter Tryz.func224, Tryz.ntmps224
  go_wp2
  go_ret
  exact ⟨_, rfl, World.ownsRow_nil _ _ _ _, Below.refl _ _⟩
 ·have hpos : 0 < n := by omega
  have hold : (Builtin.firstCells i0.size 0 (.slice none 0 0)).run Tryz.prog w.drew = .ok (#[] : Array Value) w.drew := by simp [Builtin.firstCells]
  have hrz := Lib.run_append_grow_zeros w 22 3 22 42 i0 (.float .f64 0) .i64 .i64 Tryz.underlying22 Tryz.underlying3 hi hz0 none 0 0 [] hold n hpos (by omega) (by omega) (by omega) (by rw [hz2]; omega)
   (by rw [Nat.zero_add]; exact growslice_fits hpos (by rw [hz2]; omega))
  rw [Nat.zero_add] at hrz
  have hge := grownCap_ge w n 0 42
  have hcm := grownCap_le_maxLen w n 0 42 (by unfold maxLen; omega)
  obtain ⟨G, hG⟩ : ∃ G, G = grownCap w n 0 42 := ⟨_, rfl⟩
  rw [← hG] at hrz hge hcm
  clear hold hG
  go_enter Tryz.func224, Tryz.ntmps224
  go_wp2_with (at_builtin; refine Lib.wpList_append_run _ rfl _ _ _ _ rfl _ _ rfl rfl _ _ hrz ?_)
  go_ret
  refine ⟨.slice (some ⟨w.heap.size, 0, none⟩) 0 G, rfl, ?_, ?_⟩
  ·have h := World.ownsRow_made (base := w.heap.size) (e := 42) (size := 1) w (Builtin.zeroCells #[Value.float FloatKind.f64 0] n ++ Builtin.zeroCells #[Value.float FloatKind.f64 0] (G - n)) G (Nat.le_refl _) hcm (by
    rw [Array.size_append, size_zeroCells, size_zeroCells]; simp; omega)
   exact h
  ·exact Below.drewN' ((Below.refl w.heap.size w).alloc (Nat.le_refl _) _) 1

set_option maxHeartbeats 4000000 in
theorem catF_calls {ok : Nat → Prop} (v : Value) (L : List (List Nat)) (w : World) (hv : RowsG (Value.float .f64) w ok v L) (hl : L.length ≤ 2000000) (hm : L.flatten.length ≤ 2000000) :
  Calls Tryz.prog 206 #[v] w fun e w' => ∃ z, e = .returned z ∧ Slc w' (fun b => w.heap.size ≤ b) z L.flatten.length ((L.flatten).map (Value.float .f64)) ∧ Below w.heap.size w w' := by
 obtain ⟨i0, hi, hz0, hz1, hz2⟩ := info_parts info_f64
 have HV := Lib.hid hv
 obtain ⟨ao, cap, rfl, _⟩ := hv
 have HM := Lib.hid (show ∀ k, k ≤ L.length → (L.take k).flatten.length ≤ 2000000 from fun k hk => Nat.le_trans (flatG_le L (L.length - k) k (by omega)) hm)
 have HF := Lib.hid hm; clear hm
 go_enter Tryz.func206, Tryz.ntmps206
 go_wp2
 go_loopw [3, 11] (fun a i wr => ∃ k : Nat, k ≤ L.length ∧ i = .int .i64 (k : Int) ∧ a = .int .i64 (((L.take k).flatten.length : Nat) : Int) ∧ wr = w) (fun _ i _ => L.length - (intOf i).toNat)
 case atStart => exact ⟨0, by omega, rfl, rfl, rfl⟩
 case round =>
  obtain ⟨k, hk, rfl, rfl, hwr⟩ := hrel
  have hwr := hwr.symm
  subst hwr
  obtain ⟨n, hn⟩ : ∃ n, n = (L.take k).flatten.length := ⟨_, rfl⟩
  have HN := Lib.hid hn
  have hn2 : n ≤ 2000000 := by rw [hn]; exact HM.out k hk
  rw [← hn]
  clear hn
  by_cases hlt : k < L.length
  ·obtain ⟨ao', cap', e1, hc⟩ := HV.out
   obtain ⟨b, off, u, e2, hcx, hs⟩ := hc k hlt
   obtain ⟨rfl, e1b⟩ : ao = some ⟨b, off, none⟩ ∧ cap = cap' := by cases e1; exact ⟨e2, rfl⟩
   obtain ⟨ao3, cap3, hu, _⟩ := hs.opened
   obtain ⟨l, hl2⟩ : ∃ l, L[k] = l := ⟨_, rfl⟩
   rw [hl2] at hu
   subst hu
   have HL := Lib.hid (flatG_len (show L[k]? = some l by rw [List.getElem?_eq_getElem hlt, hl2]))
   rw [← HN.out] at HL
   have hm2 := HM.out (k + 1) (by omega)
   rw [HL.out] at hm2
   clear hc hs e1 e2 e1b hl2
   go_wp2
   go_roundw
   case rel => exact ⟨k + 1, by omega, by go_num, by rw [HL.out]; go_num, by trivial⟩
   case measure => simp [intOf]; omega
  ·have hkl : k = L.length := by omega
   have HNF := Lib.hid (show L.flatten.length = n by have := HN.out; rw [hkl, List.take_length] at this; exact this.symm)
   clear hkl
   go_wp2_with fail
   refine (growF_calls n hn2 _).mono ?_
   rintro e W1 ⟨vg, rfl, hown, hB⟩
   have HO := Lib.hid hown
   have HV1 := Lib.hid (HV.out.below hB)
   have HB := Lib.hid hB; clear hown hB
   go_wp2
   go_loopw [6, 27] (fun a i wq => ∃ j : Nat, j ≤ L.length ∧ i = .int .i64 (j : Int) ∧ wq.ownsRow w.heap.size 42 1 a (L.take j).flatten.length (((L.take j).flatten).map (Value.float .f64)) ∧ Below w.heap.size w wq) (fun _ i _ => L.length - (intOf i).toNat)
   case atStart => exact ⟨0, by omega, rfl, HO.out, HB.out⟩
   case round =>
    obtain ⟨j, hj, rfl, hown, hB⟩ := hrel
    obtain ⟨m, hm⟩ : ∃ m, m = (L.take j).flatten.length := ⟨_, rfl⟩
    have HMJ := Lib.hid hm
    rw [← hm] at hown
    have HOW := Lib.hid hown; have HBW := Lib.hid hB
    have hsz := hB.size
    clear hm hown
    by_cases hlt2 : j < L.length
    ·obtain ⟨ao', cap', e1, hc⟩ := HV.out.below hB
     obtain ⟨b, off, u, e2, hcx, hs⟩ := hc j hlt2
     obtain ⟨rfl, e1b⟩ : ao = some ⟨b, off, none⟩ ∧ cap = cap' := by cases e1; exact ⟨e2, rfl⟩
     have hs2 := hs
     obtain ⟨ao3, cap3, hu, _⟩ := hs.opened
     obtain ⟨l, hl2⟩ : ∃ l, L[j] = l := ⟨_, rfl⟩
     rw [hl2] at hu hs2
     subst hu
     have HS := Lib.hid hs2
     have hlj : L[j]? = some l := by rw [List.getElem?_eq_getElem hlt2, hl2]
     have HL := Lib.hid (flatG_len hlj)
     have HFT := Lib.hid (flatG_take hlj)
     rw [← HMJ.out] at HL
     have hm2 := HM.out (j + 1) (by omega)
     rw [HL.out] at hm2
     clear hc hs hs2 e1 e2 e1b hl2 hB hlj
     go_wp2_with (at_builtin; refine wpList_append_any _ rfl _ _ 22 rfl w.heap.size 42 i0 (.float .f64 0) 8 Tryz.underlying22 hi hz0 hz1 hz2 rfl _ m (((L.take j).flatten).map (Value.float .f64)) rfl HOW.out ao3 l.length cap3 ((l).map (Value.float .f64)) rfl HS.out.1 (map_one (Value.float .f64) (fun _ => rfl) l) ?c3 ?c4 ?c5 ?_)
     case c3 => unfold maxLen; omega
     case c4 => omega
     case c5 => exact hsz
     intro v' w3 hown' hgrow
     have HO3 := Lib.hid hown'
     have HB3 := Lib.hid (grown_below HBW.out HOW.out (Nat.le_refl _) hsz hgrow)
     clear hown' hgrow
     go_wp2
     go_roundw
     case rel =>
      refine ⟨j + 1, by omega, by go_num, ?_, HB3.out⟩
      have := HO3.out
      rw [HL.out, HFT.out]
      simpa using this
     case measure => simp [intOf]; omega
    ·have hkl : j = L.length := by omega
     have HK := Lib.hid hkl; clear hkl hB
     go_wp2
     go_ret
     refine ⟨_, rfl, ?_, HBW.out⟩
     have := Slc.owned HOW.out
     rwa [HMJ.out, HK.out, List.take_length] at this

set_option maxHeartbeats 2000000 in
theorem growC_calls (n : Nat) (hn : n ≤ 2000000) (w : World) :
  Calls Tryz.prog 222 #[.slice none 0 0, .int .i64 (n : Int)] w fun e w' => ∃ v, e = .returned v ∧ w'.ownsRow w.heap.size 21 1 v 0 [] ∧ Below w.heap.size w w' := by
 obtain ⟨i0, hi, hz0, hz1, hz2⟩ := info_parts info_i32
 by_cases h0 : n = 0
 ·subst h0
  go_enter Tryz.func222, Tryz.ntmps222
  go_wp2
  go_ret
  exact ⟨_, rfl, World.ownsRow_nil _ _ _ _, Below.refl _ _⟩
 ·have hpos : 0 < n := by omega
  have hold : (Builtin.firstCells i0.size 0 (.slice none 0 0)).run Tryz.prog w.drew = .ok (#[] : Array Value) w.drew := by simp [Builtin.firstCells]
  have hrz := Lib.run_append_grow_zeros w 47 3 47 21 i0 (.int .i32 0) .i64 .i64 Tryz.underlying47 Tryz.underlying3 hi hz0 none 0 0 [] hold n hpos (by omega) (by omega) (by omega) (by rw [hz2]; omega)
   (by rw [Nat.zero_add]; exact growslice_fits hpos (by rw [hz2]; omega))
  rw [Nat.zero_add] at hrz
  have hge := grownCap_ge w n 0 21
  have hcm := grownCap_le_maxLen w n 0 21 (by unfold maxLen; omega)
  obtain ⟨G, hG⟩ : ∃ G, G = grownCap w n 0 21 := ⟨_, rfl⟩
  rw [← hG] at hrz hge hcm
  clear hold hG
  go_enter Tryz.func222, Tryz.ntmps222
  go_wp2_with (at_builtin; refine Lib.wpList_append_run _ rfl _ _ _ _ rfl _ _ rfl rfl _ _ hrz ?_)
  go_ret
  refine ⟨.slice (some ⟨w.heap.size, 0, none⟩) 0 G, rfl, ?_, ?_⟩
  ·have h := World.ownsRow_made (base := w.heap.size) (e := 21) (size := 1) w (Builtin.zeroCells #[Value.int IntKind.i32 0] n ++ Builtin.zeroCells #[Value.int IntKind.i32 0] (G - n)) G (Nat.le_refl _) hcm (by
    rw [Array.size_append, size_zeroCells, size_zeroCells]; simp; omega)
   exact h
  ·exact Below.drewN' ((Below.refl w.heap.size w).alloc (Nat.le_refl _) _) 1

set_option maxHeartbeats 4000000 in
theorem catC_calls {ok : Nat → Prop} (v : Value) (L : List (List Int)) (w : World) (hv : RowsG (Value.int .i32) w ok v L) (hl : L.length ≤ 2000000) (hm : L.flatten.length ≤ 2000000) :
  Calls Tryz.prog 204 #[v] w fun e w' => ∃ z, e = .returned z ∧ Slc w' (fun b => w.heap.size ≤ b) z L.flatten.length ((L.flatten).map (Value.int .i32)) ∧ Below w.heap.size w w' := by
 obtain ⟨i0, hi, hz0, hz1, hz2⟩ := info_parts info_i32
 have HV := Lib.hid hv
 obtain ⟨ao, cap, rfl, _⟩ := hv
 have HM := Lib.hid (show ∀ k, k ≤ L.length → (L.take k).flatten.length ≤ 2000000 from fun k hk => Nat.le_trans (flatG_le L (L.length - k) k (by omega)) hm)
 have HF := Lib.hid hm; clear hm
 go_enter Tryz.func204, Tryz.ntmps204
 go_wp2
 go_loopw [3, 11] (fun a i wr => ∃ k : Nat, k ≤ L.length ∧ i = .int .i64 (k : Int) ∧ a = .int .i64 (((L.take k).flatten.length : Nat) : Int) ∧ wr = w) (fun _ i _ => L.length - (intOf i).toNat)
 case atStart => exact ⟨0, by omega, rfl, rfl, rfl⟩
 case round =>
  obtain ⟨k, hk, rfl, rfl, hwr⟩ := hrel
  have hwr := hwr.symm
  subst hwr
  obtain ⟨n, hn⟩ : ∃ n, n = (L.take k).flatten.length := ⟨_, rfl⟩
  have HN := Lib.hid hn
  have hn2 : n ≤ 2000000 := by rw [hn]; exact HM.out k hk
  rw [← hn]
  clear hn
  by_cases hlt : k < L.length
  ·obtain ⟨ao', cap', e1, hc⟩ := HV.out
   obtain ⟨b, off, u, e2, hcx, hs⟩ := hc k hlt
   obtain ⟨rfl, e1b⟩ : ao = some ⟨b, off, none⟩ ∧ cap = cap' := by cases e1; exact ⟨e2, rfl⟩
   obtain ⟨ao3, cap3, hu, _⟩ := hs.opened
   obtain ⟨l, hl2⟩ : ∃ l, L[k] = l := ⟨_, rfl⟩
   rw [hl2] at hu
   subst hu
   have HL := Lib.hid (flatG_len (show L[k]? = some l by rw [List.getElem?_eq_getElem hlt, hl2]))
   rw [← HN.out] at HL
   have hm2 := HM.out (k + 1) (by omega)
   rw [HL.out] at hm2
   clear hc hs e1 e2 e1b hl2
   go_wp2
   go_roundw
   case rel => exact ⟨k + 1, by omega, by go_num, by rw [HL.out]; go_num, by trivial⟩
   case measure => simp [intOf]; omega
  ·have hkl : k = L.length := by omega
   have HNF := Lib.hid (show L.flatten.length = n by have := HN.out; rw [hkl, List.take_length] at this; exact this.symm)
   clear hkl
   go_wp2_with fail
   refine (growC_calls n hn2 _).mono ?_
   rintro e W1 ⟨vg, rfl, hown, hB⟩
   have HO := Lib.hid hown
   have HV1 := Lib.hid (HV.out.below hB)
   have HB := Lib.hid hB; clear hown hB
   go_wp2
   go_loopw [6, 27] (fun a i wq => ∃ j : Nat, j ≤ L.length ∧ i = .int .i64 (j : Int) ∧ wq.ownsRow w.heap.size 21 1 a (L.take j).flatten.length (((L.take j).flatten).map (Value.int .i32)) ∧ Below w.heap.size w wq) (fun _ i _ => L.length - (intOf i).toNat)
   case atStart => exact ⟨0, by omega, rfl, HO.out, HB.out⟩
   case round =>
    obtain ⟨j, hj, rfl, hown, hB⟩ := hrel
    obtain ⟨m, hm⟩ : ∃ m, m = (L.take j).flatten.length := ⟨_, rfl⟩
    have HMJ := Lib.hid hm
    rw [← hm] at hown
    have HOW := Lib.hid hown; have HBW := Lib.hid hB
    have hsz := hB.size
    clear hm hown
    by_cases hlt2 : j < L.length
    ·obtain ⟨ao', cap', e1, hc⟩ := HV.out.below hB
     obtain ⟨b, off, u, e2, hcx, hs⟩ := hc j hlt2
     obtain ⟨rfl, e1b⟩ : ao = some ⟨b, off, none⟩ ∧ cap = cap' := by cases e1; exact ⟨e2, rfl⟩
     have hs2 := hs
     obtain ⟨ao3, cap3, hu, _⟩ := hs.opened
     obtain ⟨l, hl2⟩ : ∃ l, L[j] = l := ⟨_, rfl⟩
     rw [hl2] at hu hs2
     subst hu
     have HS := Lib.hid hs2
     have hlj : L[j]? = some l := by rw [List.getElem?_eq_getElem hlt2, hl2]
     have HL := Lib.hid (flatG_len hlj)
     have HFT := Lib.hid (flatG_take hlj)
     rw [← HMJ.out] at HL
     have hm2 := HM.out (j + 1) (by omega)
     rw [HL.out] at hm2
     clear hc hs hs2 e1 e2 e1b hl2 hB hlj
     go_wp2_with (at_builtin; refine wpList_append_any _ rfl _ _ 47 rfl w.heap.size 21 i0 (.int .i32 0) 4 Tryz.underlying47 hi hz0 hz1 hz2 rfl _ m (((L.take j).flatten).map (Value.int .i32)) rfl HOW.out ao3 l.length cap3 ((l).map (Value.int .i32)) rfl HS.out.1 (map_one (Value.int .i32) (fun _ => rfl) l) ?c3 ?c4 ?c5 ?_)
     case c3 => unfold maxLen; omega
     case c4 => omega
     case c5 => exact hsz
     intro v' w3 hown' hgrow
     have HO3 := Lib.hid hown'
     have HB3 := Lib.hid (grown_below HBW.out HOW.out (Nat.le_refl _) hsz hgrow)
     clear hown' hgrow
     go_wp2
     go_roundw
     case rel =>
      refine ⟨j + 1, by omega, by go_num, ?_, HB3.out⟩
      have := HO3.out
      rw [HL.out, HFT.out]
      simpa using this
     case measure => simp [intOf]; omega
    ·have hkl : j = L.length := by omega
     have HK := Lib.hid hkl; clear hkl hB
     go_wp2
     go_ret
     refine ⟨_, rfl, ?_, HBW.out⟩
     have := Slc.owned HOW.out
     rwa [HMJ.out, HK.out, List.take_length] at this

set_option maxHeartbeats 2000000 in
theorem growB_calls (n : Nat) (hn : n ≤ 2000000) (w : World) :
  Calls Tryz.prog 221 #[.slice none 0 0, .int .i64 (n : Int)] w fun e w' => ∃ v, e = .returned v ∧ w'.ownsRow w.heap.size 4 1 v 0 [] ∧ Below w.heap.size w w' := by
 obtain ⟨i0, hi, hz0, hz1, hz2⟩ := info_parts info_bool1
 by_cases h0 : n = 0
 ·subst h0
  go_enter Tryz.func221, Tryz.ntmps221
  go_wp2
  go_ret
  exact ⟨_, rfl, World.ownsRow_nil _ _ _ _, Below.refl _ _⟩
 ·have hpos : 0 < n := by omega
  have hold : (Builtin.firstCells i0.size 0 (.slice none 0 0)).run Tryz.prog w.drew = .ok (#[] : Array Value) w.drew := by simp [Builtin.firstCells]
  have hrz := Lib.run_append_grow_zeros w 40 3 40 4 i0 (.bool false) .i64 .i64 Tryz.underlying40 Tryz.underlying3 hi hz0 none 0 0 [] hold n hpos (by omega) (by omega) (by omega) (by rw [hz2]; omega)
   (by rw [Nat.zero_add]; exact growslice_fits hpos (by rw [hz2]; omega))
  rw [Nat.zero_add] at hrz
  have hge := grownCap_ge w n 0 4
  have hcm := grownCap_le_maxLen w n 0 4 (by unfold maxLen; omega)
  obtain ⟨G, hG⟩ : ∃ G, G = grownCap w n 0 4 := ⟨_, rfl⟩
  rw [← hG] at hrz hge hcm
  clear hold hG
  go_enter Tryz.func221, Tryz.ntmps221
  go_wp2_with (at_builtin; refine Lib.wpList_append_run _ rfl _ _ _ _ rfl _ _ rfl rfl _ _ hrz ?_)
  go_ret
  refine ⟨.slice (some ⟨w.heap.size, 0, none⟩) 0 G, rfl, ?_, ?_⟩
  ·have h := World.ownsRow_made (base := w.heap.size) (e := 4) (size := 1) w (Builtin.zeroCells #[Value.bool false] n ++ Builtin.zeroCells #[Value.bool false] (G - n)) G (Nat.le_refl _) hcm (by
    rw [Array.size_append, size_zeroCells, size_zeroCells]; simp; omega)
   exact h
  ·exact Below.drewN' ((Below.refl w.heap.size w).alloc (Nat.le_refl _) _) 1

set_option maxHeartbeats 4000000 in
theorem catB_calls {ok : Nat → Prop} (v : Value) (L : List (List Bool)) (w : World) (hv : RowsG (Value.bool) w ok v L) (hl : L.length ≤ 2000000) (hm : L.flatten.length ≤ 2000000) :
  Calls Tryz.prog 203 #[v] w fun e w' => ∃ z, e = .returned z ∧ Slc w' (fun b => w.heap.size ≤ b) z L.flatten.length ((L.flatten).map (Value.bool)) ∧ Below w.heap.size w w' := by
 obtain ⟨i0, hi, hz0, hz1, hz2⟩ := info_parts info_bool1
 have HV := Lib.hid hv
 obtain ⟨ao, cap, rfl, _⟩ := hv
 have HM := Lib.hid (show ∀ k, k ≤ L.length → (L.take k).flatten.length ≤ 2000000 from fun k hk => Nat.le_trans (flatG_le L (L.length - k) k (by omega)) hm)
 have HF := Lib.hid hm; clear hm
 go_enter Tryz.func203, Tryz.ntmps203
 go_wp2
 go_loopw [3, 11] (fun a i wr => ∃ k : Nat, k ≤ L.length ∧ i = .int .i64 (k : Int) ∧ a = .int .i64 (((L.take k).flatten.length : Nat) : Int) ∧ wr = w) (fun _ i _ => L.length - (intOf i).toNat)
 case atStart => exact ⟨0, by omega, rfl, rfl, rfl⟩
 case round =>
  obtain ⟨k, hk, rfl, rfl, hwr⟩ := hrel
  have hwr := hwr.symm
  subst hwr
  obtain ⟨n, hn⟩ : ∃ n, n = (L.take k).flatten.length := ⟨_, rfl⟩
  have HN := Lib.hid hn
  have hn2 : n ≤ 2000000 := by rw [hn]; exact HM.out k hk
  rw [← hn]
  clear hn
  by_cases hlt : k < L.length
  ·obtain ⟨ao', cap', e1, hc⟩ := HV.out
   obtain ⟨b, off, u, e2, hcx, hs⟩ := hc k hlt
   obtain ⟨rfl, e1b⟩ : ao = some ⟨b, off, none⟩ ∧ cap = cap' := by cases e1; exact ⟨e2, rfl⟩
   obtain ⟨ao3, cap3, hu, _⟩ := hs.opened
   obtain ⟨l, hl2⟩ : ∃ l, L[k] = l := ⟨_, rfl⟩
   rw [hl2] at hu
   subst hu
   have HL := Lib.hid (flatG_len (show L[k]? = some l by rw [List.getElem?_eq_getElem hlt, hl2]))
   rw [← HN.out] at HL
   have hm2 := HM.out (k + 1) (by omega)
   rw [HL.out] at hm2
   clear hc hs e1 e2 e1b hl2
   go_wp2
   go_roundw
   case rel => exact ⟨k + 1, by omega, by go_num, by rw [HL.out]; go_num, by trivial⟩
   case measure => simp [intOf]; omega
  ·have hkl : k = L.length := by omega
   have HNF := Lib.hid (show L.flatten.length = n by have := HN.out; rw [hkl, List.take_length] at this; exact this.symm)
   clear hkl
   go_wp2_with fail
   refine (growB_calls n hn2 _).mono ?_
   rintro e W1 ⟨vg, rfl, hown, hB⟩
   have HO := Lib.hid hown
   have HV1 := Lib.hid (HV.out.below hB)
   have HB := Lib.hid hB; clear hown hB
   go_wp2
   go_loopw [6, 27] (fun a i wq => ∃ j : Nat, j ≤ L.length ∧ i = .int .i64 (j : Int) ∧ wq.ownsRow w.heap.size 4 1 a (L.take j).flatten.length (((L.take j).flatten).map (Value.bool)) ∧ Below w.heap.size w wq) (fun _ i _ => L.length - (intOf i).toNat)
   case atStart => exact ⟨0, by omega, rfl, HO.out, HB.out⟩
   case round =>
    obtain ⟨j, hj, rfl, hown, hB⟩ := hrel
    obtain ⟨m, hm⟩ : ∃ m, m = (L.take j).flatten.length := ⟨_, rfl⟩
    have HMJ := Lib.hid hm
    rw [← hm] at hown
    have HOW := Lib.hid hown; have HBW := Lib.hid hB
    have hsz := hB.size
    clear hm hown
    by_cases hlt2 : j < L.length
    ·obtain ⟨ao', cap', e1, hc⟩ := HV.out.below hB
     obtain ⟨b, off, u, e2, hcx, hs⟩ := hc j hlt2
     obtain ⟨rfl, e1b⟩ : ao = some ⟨b, off, none⟩ ∧ cap = cap' := by cases e1; exact ⟨e2, rfl⟩
     have hs2 := hs
     obtain ⟨ao3, cap3, hu, _⟩ := hs.opened
     obtain ⟨l, hl2⟩ : ∃ l, L[j] = l := ⟨_, rfl⟩
     rw [hl2] at hu hs2
     subst hu
     have HS := Lib.hid hs2
     have hlj : L[j]? = some l := by rw [List.getElem?_eq_getElem hlt2, hl2]
     have HL := Lib.hid (flatG_len hlj)
     have HFT := Lib.hid (flatG_take hlj)
     rw [← HMJ.out] at HL
     have hm2 := HM.out (j + 1) (by omega)
     rw [HL.out] at hm2
     clear hc hs hs2 e1 e2 e1b hl2 hB hlj
     go_wp2_with (at_builtin; refine wpList_append_any _ rfl _ _ 40 rfl w.heap.size 4 i0 (.bool false) 1 Tryz.underlying40 hi hz0 hz1 hz2 rfl _ m (((L.take j).flatten).map (Value.bool)) rfl HOW.out ao3 l.length cap3 ((l).map (Value.bool)) rfl HS.out.1 (map_one (Value.bool) (fun _ => rfl) l) ?c3 ?c4 ?c5 ?_)
     case c3 => unfold maxLen; omega
     case c4 => omega
     case c5 => exact hsz
     intro v' w3 hown' hgrow
     have HO3 := Lib.hid hown'
     have HB3 := Lib.hid (grown_below HBW.out HOW.out (Nat.le_refl _) hsz hgrow)
     clear hown' hgrow
     go_wp2
     go_roundw
     case rel =>
      refine ⟨j + 1, by omega, by go_num, ?_, HB3.out⟩
      have := HO3.out
      rw [HL.out, HFT.out]
      simpa using this
     case measure => simp [intOf]; omega
    ·have hkl : j = L.length := by omega
     have HK := Lib.hid hkl; clear hkl hB
     go_wp2
     go_ret
     refine ⟨_, rfl, ?_, HBW.out⟩
     have := Slc.owned HOW.out
     rwa [HMJ.out, HK.out, List.take_length] at this
end Go.Proofs.YtbacchbcanlciaaGreatDoor

namespace Go.Proofs.YtbacchbcanlciaaGreatDoor
set_option maxRecDepth 100000
open Go.RowKit Fl
set_option linter.unusedVariables false

def VecsZ (w : World) (ok : Nat → Prop) (v : Value) (Z : List (Value × VV)) : Prop := Slc w ok v Z.length (Z.map Prod.fst) ∧ ∀ p ∈ Z, IsV w ok p.1 p.2
theorem VecsZ.keep {w w' : World} {ok ok' : Nat → Prop} {v : Value} {Z : List (Value × VV)} (hk : Kept ok w w') (hm : ∀ b, b < w.heap.size → ok b → ok' b) (h : VecsZ w ok v Z) : VecsZ w' ok' v Z := ⟨h.1.keep hk hm, fun p hp => (h.2 p hp).keep hk hm⟩
theorem VecsZ.go {w w' : World} {ok : Nat → Prop} {v : Value} {Z : List (Value × VV)} (h : VecsZ w ok v Z) (hB : Below w.heap.size w w') : Hid (VecsZ w' ok v Z) := Lib.hid (h.keep (Kept.below hB) (fun _ _ h => h))
theorem IsV.one {w : World} {ok : Nat → Prop} {u : Value} {V : VV} (h : IsV w ok u V) : u.oneCell' = true := by
 rcases h.shape with rfl | ⟨t, x, rfl⟩ <;> rfl
theorem VecsZ.at {w : World} {ok : Nat → Prop} {ao : Option Addr} {n cap : Nat} {Z : List (Value × VV)} (h : VecsZ w ok (.slice ao n cap) Z) {k : Nat} (hk : k < Z.length) :
  ∃ b off p, ao = some ⟨b, off, none⟩ ∧ Z[k]? = some p ∧ w.cell? ⟨b, off + k, none⟩ = some p.1 ∧ IsV w ok p.1 p.2 := by
 obtain ⟨ao', cap', e, _, _, _, hc⟩ := h.1.opened
 cases e
 obtain ⟨b, off, e, _, hcell⟩ := hc k (by simpa using hk)
 refine ⟨b, off, Z[k], e, List.getElem?_eq_getElem hk, by simpa using hcell, h.2 _ (List.getElem_mem hk)⟩
def fullZ (Z : List (Value × VV)) : List (Value × VV) := Z.filter fun p => decide (0 < p.2.len)
theorem info_vec1 : (Tryz.prog.info? 25).map (fun i => (i.zero, i.size, i.bytes)) = some (some (.agg #[.nilIface]), 1, 16) := by kernel_rfl

set_option maxHeartbeats 4000000 in
theorem withElements_calls {ok : Nat → Prop} (v : Value) (Z : List (Value × VV)) (w : World) (hz : VecsZ w ok v Z) (hm : Z.length ≤ 2000000) :
  Calls Tryz.prog 165 #[v] w fun e w' => ∃ v', e = .returned v' ∧ Slc w' (fun b => w.heap.size ≤ b) v' (fullZ Z).length ((fullZ Z).map Prod.fst) ∧ Below w.heap.size w w' := by
 have HZ := Lib.hid (hz.keep (Kept.refl _ _) (ok' := fun b => b < w.heap.size) (fun b h _ => h))
 obtain ⟨ao, cap, rfl, _⟩ := hz.1.opened
 obtain ⟨i0, hi, hz0, hz1, hz2⟩ := info_parts info_vec1
 have HI0 := Lib.hid (And.intro hi (And.intro hz0 (And.intro hz1 hz2)))
 clear hz hi hz0 hz1 hz2
 go_enter Tryz.func165, Tryz.ntmps165
 go_wp2_with fail
 go_loopw [3, 8] (fun f i wr => ∃ k : Nat, k ≤ Z.length ∧ i = .int .i64 k ∧ wr.ownsRow w.heap.size 25 1 f (fullZ (Z.take k)).length ((fullZ (Z.take k)).map Prod.fst) ∧ Below w.heap.size w wr) (fun _ i _ => Z.length - (intOf i).toNat)
 case atStart => exact ⟨0, by omega, rfl, by simpa [fullZ] using World.ownsRow_nil _ _ _ _, Below.refl _ _⟩
 case round =>
  obtain ⟨k, hk, rfl, hown, hB⟩ := hrel
  obtain ⟨fo, fc, hf⟩ := owns_form hown
  subst hf
  have HO := Lib.hid hown; have HB := Lib.hid hB; have HSZ := Lib.hid hB.size
  obtain ⟨m, hm1⟩ : ∃ m, m = (fullZ (Z.take k)).length := ⟨_, rfl⟩
  have HM := Lib.hid hm1
  rw [← hm1] at HO ⊢
  have HMK := Lib.hid (show m ≤ k by rw [hm1]; exact Nat.le_trans (List.length_filter_le _ _) (by simp; omega))
  clear hown hB hm1
  by_cases hlt : k < Z.length
  ·obtain ⟨b, off, p, rfl, hp, c0, hv⟩ := HZ.out.at hlt
   have c0 := keep_below HB.out _ _ c0
   have hsv := hv.store
   obtain ⟨pu, pV⟩ := p
   have HV := Lib.hid (show IsV (wr.alloc (.cells #[pu] 25)) (fun b => b < w.heap.size) pu pV from (hv.grow HB.out).grow (below_new _ _))
   have HTK := Lib.hid (ptake hp)
   have HA := Lib.hid (At1.new wr pu 25)
   have a0 := HA.out.2.1
   have HON := Lib.hid (show ∀ u ∈ [pu], u.oneCell' = true by intro u hu; simp at hu; subst hu; exact hv.one)
   simp only at c0
   clear hp hv
   go_wp2_with fail
   refine (vlen_calls _ pV _ HV.out).mono ?_
   rintro e W3 ⟨rfl, hB3⟩
   have HBr3 := Lib.hid (show Below wr.heap.size wr W3 from (below_new _ _).trans (hB3.mono (by simp)))
   have HA3 := Lib.hid (HA.out.below hB3)
   have a0 := HA3.out.2.1; clear hB3
   by_cases hl : 0 < pV.len
   ·have hl1 : ((pV.len : Int) > 0) = True := eq_true (by omega)
    have hl2 : 0 < pV.len := hl
    have HFK := Lib.hid (show fullZ (Z.take (k + 1)) = fullZ (Z.take k) ++ [(pu, pV)] by rw [HTK.out]; simp [fullZ, hl])
    obtain ⟨W4, hW4⟩ : ∃ W4, W4 = W3.alloc (.cells #[pu] 25) := ⟨_, rfl⟩
    have HB4 := Lib.hid (show Below wr.heap.size wr W4 by rw [hW4]; exact HBr3.out.alloc HBr3.out.size _)
    have HO4 := Lib.hid (owns_below2 HO.out HB4.out)
    have HN4 := Lib.hid (show ∀ j u, [pu][j]? = some u → W4.cell? ((⟨W3.heap.size, 0, none⟩ : Addr).add j) = some u by
     rw [hW4]; intro j u h
     rw [Go.WideShapes.add_plain]
     match j with
     | 0 => simp at h; subst h; simp
     | j + 1 => simp at h)
    have HS4 := Lib.hid (Nat.le_trans HSZ.out HB4.out.size)
    have HM1 : Hid (m + 1 ≤ maxLen) := Lib.hid (by have := HMK.out; unfold maxLen; omega)
    have HM2 : Hid ((m + 1) * 16 ≤ 140737488355328) := Lib.hid (by have := HMK.out; omega)
    have hfold4 := hW4.symm
    have hst := hsv
    clear hW4 hl
    go_wp2_with (at_builtin; refine wpList_append_blk _ rfl _ _ 124 rfl w.heap.size 25 i0 _ 1 16 Tryz.underlying124 HI0.out.1 HI0.out.2.1 HI0.out.2.2.1 HI0.out.2.2.2 rfl (by decide) _ m _ rfl HO4.out ⟨W3.heap.size, 0, none⟩ 1 1 [pu] rfl rfl HN4.out HON.out HM1.out HM2.out HS4.out ?_)
    intro v' w5 hown hgrow hblk
    obtain ⟨o5, q5, rfl⟩ := owns_form hown
    have HO5 := Lib.hid hown
    have HB5 := Lib.hid (show Below w.heap.size w w5 from (HB.out.trans (HB4.out.mono HSZ.out)).grown hgrow HS4.out (fun j hj => (HO.out.lt j hj).1))
    clear hown hgrow hblk hfold4 a0
    go_wp2_with fail
    go_roundw
    case rel =>
     refine ⟨k + 1, by omega, by go_num, ?_, HB5.out⟩
     rw [HFK.out, List.length_append, List.map_append, ← HM.out]
     exact HO5.out
    case measure => simp [intOf]; omega
   ·have hl1 : ¬ ((pV.len : Int) > 0) := by omega
    have HFK := Lib.hid (show fullZ (Z.take (k + 1)) = fullZ (Z.take k) by rw [HTK.out]; simp [fullZ, hl])
    have hl2 : ¬ 0 < pV.len := hl
    clear hl
    go_wp2_with fail
    go_roundw
    case rel =>
     refine ⟨k + 1, by omega, by go_num, ?_, HB.out.trans (HBr3.out.mono HSZ.out)⟩
     rw [HFK.out, ← HM.out]
     exact owns_below2 HO.out HBr3.out
    case measure => simp [intOf]; omega
  ·have hkl : k = Z.length := by omega
   have HFIN := Lib.hid (show Slc wr (fun b => w.heap.size ≤ b) (.slice fo m fc) (fullZ Z).length ((fullZ Z).map Prod.fst) by
    have h := Slc.owned HO.out
    have e := HM.out
    rw [hkl, List.take_length] at h e
    rw [e] at h ⊢; exact h)
   clear hkl
   go_wp2_with fail
   go_ret
   exact ⟨_, rfl, HFIN.out, HB.out⟩
end Go.Proofs.YtbacchbcanlciaaGreatDoor

namespace Go.Proofs.YtbacchbcanlciaaGreatDoor
set_option maxRecDepth 100000
open Go.RowKit Fl
set_option linter.unusedVariables false

def clsZ : List (Value × VV) → Int
 | [] => 0 | p :: _ => p.2.cls
def comZ (k0 : Int) (Z : List (Value × VV)) : Int := (Z.map fun p => p.2.kind).foldl commonK k0
def lensZ (Z : List (Value × VV)) : Nat := (Z.map fun p => p.2.len).sum

set_option maxHeartbeats 4000000 in
theorem firstClass_calls {ok : Nat → Prop} (v : Value) (Z : List (Value × VV)) (w : World) (hz : VecsZ w ok v Z) :
  Calls Tryz.prog 166 #[v] w fun e w' => e = .returned (.int .i64 (clsZ Z)) ∧ Below w.heap.size w w' := by
 have HZ := Lib.hid hz
 obtain ⟨ao, cap, rfl, _⟩ := hz.1.opened
 clear hz
 cases Z with
 | nil =>
  have hl : ((([] : List (Value × VV)).length : Int) == 0) = true := rfl
  go_enter Tryz.func166, Tryz.ntmps166
  go_wp2_with fail
  go_ret
  exact ⟨rfl, Below.refl _ _⟩
 | cons p Z =>
  obtain ⟨b, off, q, rfl, hq, c0, hv⟩ := HZ.out.at (k := 0) (by simp)
  obtain rfl : p = q := by simpa using hq
  have HV := Lib.hid hv
  have c1 : w.cell? ⟨b, off, none⟩ = some p.1 := c0
  have hl : (((p :: Z).length : Int) == 0) = false := by rw [beq_eq_false_iff_ne]; simp; omega
  have hl2 : 0 < (p :: Z).length := by simp
  clear hq hv
  obtain ⟨N, hN⟩ : ∃ N, N = (p :: Z).length := ⟨_, rfl⟩
  rw [← hN] at hl hl2 ⊢
  clear hN
  go_enter Tryz.func166, Tryz.ntmps166
  go_wp2_with fail
  refine (class_calls _ p.2 _ HV.out).mono ?_
  rintro e W ⟨rfl, hB⟩
  go_wp2_with fail
  go_ret
  exact ⟨rfl, hB⟩

set_option maxHeartbeats 4000000 in
theorem fit_calls {ok : Nat → Prop} (v : Value) (Z : List (Value × VV)) (w : World) (hz : VecsZ w ok v Z) (hlen : ∀ p ∈ Z, p.2.len ≤ 1048576) (hm : Z.length ≤ 2000000) :
  Calls Tryz.prog 168 #[v] w fun e w' => e = .returned (.bool (decide (lensZ Z ≤ 1048576))) ∧ Below w.heap.size w w' := by
 have HZ := Lib.hid hz; have HLN := Lib.hid hlen
 obtain ⟨ao, cap, rfl, _⟩ := hz.1.opened
 clear hz hlen
 have HLE := Lib.hid (show ∀ k, lensZ (Z.take k) ≤ lensZ Z from fun k => by
  have : lensZ Z = lensZ (Z.take k) + lensZ (Z.drop k) := by unfold lensZ; rw [← List.sum_append, ← List.map_append, List.take_append_drop]
  omega)
 go_enter Tryz.func168, Tryz.ntmps168
 go_wp2_with fail
 go_loopw [3, 8] (fun r i wr => ∃ k : Nat, k ≤ Z.length ∧ i = .int .i64 k ∧ r = .int .i64 (1048576 - (lensZ (Z.take k) : Int)) ∧ lensZ (Z.take k) ≤ 1048576 ∧ Below w.heap.size w wr) (fun _ i _ => Z.length - (intOf i).toNat)
 case atStart => exact ⟨0, by omega, rfl, by simp [lensZ], by simp [lensZ], Below.refl _ _⟩
 case round =>
  obtain ⟨k, hk, rfl, rfl, hr, hB⟩ := hrel
  have HB := Lib.hid hB; clear hB
  obtain ⟨s, hs⟩ : ∃ s, s = lensZ (Z.take k) := ⟨_, rfl⟩
  have HS := Lib.hid hs
  rw [← hs] at hr ⊢
  clear hs
  by_cases hlt : k < Z.length
  ·obtain ⟨b, off, p, rfl, hp, c0, hv⟩ := HZ.out.at hlt
   have c0 := keep_below HB.out _ _ c0
   have hsv := hv.store
   obtain ⟨pu, pV⟩ := p
   have hpl := HLN.out _ (List.mem_of_getElem? hp)
   have HV := Lib.hid (show IsV (wr.alloc (.cells #[pu] 25)) ok pu pV from (hv.grow HB.out).grow (below_new _ _))
   have HTK := Lib.hid (show lensZ (Z.take (k + 1)) = s + pV.len by rw [HS.out, ptake hp]; simp [lensZ])
   have a0 := (At1.new wr pu 25).2.1
   simp only at c0 hpl
   obtain ⟨n, hn⟩ : ∃ n, n = pV.len := ⟨_, rfl⟩
   have HN := Lib.hid hn
   rw [← hn] at hpl HTK
   clear hp hv hn
   go_wp2_with fail
   refine (vlen_calls _ pV _ HV.out).mono ?_
   rintro e W3 ⟨rfl, hB3⟩
   rw [← HN.out]
   have HBr3 := Lib.hid (show Below wr.heap.size wr W3 from (below_new _ _).trans (hB3.mono (by simp)))
   have HBW := Lib.hid (HB.out.trans (HBr3.out.mono HB.out.size))
   clear hB3 a0
   have hwr : IntKind.i64.wrap ((1048576 - (s : Int)) - (n : Int)) = (1048576 - (s : Int)) - (n : Int) := IntWalk.i64_in _ (by omega)
   by_cases hf : (1048576 - (s : Int)) - (n : Int) < 0
   ·have HF := Lib.hid (show decide (lensZ Z ≤ 1048576) = false from decide_eq_false (by have := HLE.out (k + 1); rw [HTK.out] at this; omega))
    go_wp2_with fail
    go_ret
    rw [HF.out]
    exact ⟨rfl, HBW.out⟩
   ·have HLT := Lib.hid hlt; have HFX := Lib.hid hf
    go_wp2_with fail
    go_roundw
    case rel => exact ⟨k + 1, HLT.out, by go_num, by rw [HTK.out]; congr 1; push_cast; omega, by rw [HTK.out]; have := HFX.out; omega, HBW.out⟩
    case measure => have := HLT.out; simp [intOf]; omega
  ·have hkl : k = Z.length := by omega
   have HF := Lib.hid (show decide (lensZ Z ≤ 1048576) = true from decide_eq_true (by have := HS.out; rw [hkl, List.take_length] at this; omega))
   clear hkl
   go_wp2_with fail
   go_ret
   rw [HF.out]
   exact ⟨rfl, HB.out⟩

set_option maxHeartbeats 4000000 in
theorem commonKind_calls {ok : Nat → Prop} (v : Value) (p0 : Value × VV) (Z : List (Value × VV)) (w : World) (hz : VecsZ w ok v (p0 :: Z)) (hm : (p0 :: Z).length ≤ 2000000) :
  Calls Tryz.prog 167 #[v] w fun e w' => e = .returned (.int .i64 (comZ p0.2.kind (p0 :: Z))) ∧ Below w.heap.size w w' := by
 have HZ := Lib.hid hz
 obtain ⟨ao, cap, rfl, _⟩ := hz.1.opened
 obtain ⟨b, off, q, rfl, hq, c0, hv⟩ := HZ.out.at (k := 0) (by simp)
 obtain rfl : p0 = q := by simpa using hq
 have HV0 := Lib.hid hv
 have c1 : w.cell? ⟨b, off, none⟩ = some p0.1 := c0
 clear hz hq hv
 obtain ⟨Y, hY⟩ : ∃ Y, Y = p0 :: Z := ⟨_, rfl⟩
 rw [← hY] at HZ hm ⊢
 have hl2 : 0 < Y.length := by rw [hY]; simp
 clear hY c0
 go_enter Tryz.func167, Tryz.ntmps167
 go_wp2_with fail
 refine (kind_calls _ p0.2 _ HV0.out).mono ?_
 rintro e W1 ⟨rfl, hB1⟩
 have HB1 := Lib.hid hB1; clear hB1 c1
 go_wp2_with fail
 go_loopw [3, 12] (fun r i wr => ∃ k : Nat, k ≤ Y.length ∧ i = .int .i64 k ∧ r = .int .i64 (comZ p0.2.kind (Y.take k)) ∧ Below w.heap.size w wr) (fun _ i _ => Y.length - (intOf i).toNat)
 case atStart => exact ⟨0, by omega, rfl, rfl, HB1.out⟩
 case round =>
  obtain ⟨k, hk, rfl, rfl, hB⟩ := hrel
  have HB := Lib.hid hB; clear hB
  obtain ⟨s, hs⟩ : ∃ s, s = comZ p0.2.kind (Y.take k) := ⟨_, rfl⟩
  have HS := Lib.hid hs
  rw [← hs]
  clear hs
  by_cases hlt : k < Y.length
  ·obtain ⟨b2, off2, p, e2, hp, c0, hv⟩ := HZ.out.at hlt
   cases e2
   have c0 := keep_below HB.out _ _ c0
   have hsv := hv.store
   obtain ⟨pu, pV⟩ := p
   have HV := Lib.hid (show IsV (wr.alloc (.cells #[pu] 25)) ok pu pV from (hv.grow HB.out).grow (below_new _ _))
   have HTK := Lib.hid (show comZ p0.2.kind (Y.take (k + 1)) = commonK s pV.kind by rw [HS.out, ptake hp]; simp [comZ])
   have a0 := (At1.new wr pu 25).2.1
   simp only at c0
   clear hp hv
   go_wp2_with fail
   refine (kind_calls _ pV _ HV.out).mono ?_
   rintro e W3 ⟨rfl, hB3⟩
   have HBr3 := Lib.hid (show Below wr.heap.size wr W3 from (below_new _ _).trans (hB3.mono (by simp)))
   have HBW := Lib.hid (HB.out.trans (HBr3.out.mono HB.out.size))
   clear hB3 a0
   go_wp2_with fail
   refine (common_calls s pV.kind _).mono ?_
   rintro e W4 ⟨rfl, rfl⟩
   go_wp2_with fail
   go_roundw
   case rel => exact ⟨k + 1, by omega, by go_num, by rw [HTK.out], HBW.out⟩
   case measure => simp [intOf]; omega
  ·have hkl : k = Y.length := by omega
   have HF := Lib.hid (show comZ p0.2.kind Y = s by rw [HS.out, hkl, List.take_length])
   clear hkl
   go_wp2_with fail
   go_ret
   rw [HF.out]
   exact ⟨rfl, HB.out⟩
end Go.Proofs.YtbacchbcanlciaaGreatDoor

namespace Go.Proofs.YtbacchbcanlciaaGreatDoor
set_option maxRecDepth 100000
open Go.RowKit Fl
set_option linter.unusedVariables false

theorem row_set {xs : List Value} {z x : Value} {k n : Nat} (hx : xs.length = k) (hk : k < n) : (xs ++ List.replicate (n - k) z).set k x = (xs ++ [x]) ++ List.replicate (n - (k + 1)) z := by
 have e : n - k = (n - (k + 1)) + 1 := by omega
 rw [List.set_append_right _ _ (by omega), hx, Nat.sub_self, e, List.replicate_succ, List.set_cons_zero, List.append_assoc]
 rfl

set_option maxHeartbeats 4000000 in
theorem flags8_calls {ok : Nat → Prop} (u : Value) (V : VV) (w : World) (h : IsV w ok u V) (hok : V.ok) :
  Calls Tryz.prog 170 #[.agg #[u]] w fun e w' => ∃ v, e = .returned v ∧ Slc w' (fun b => w.heap.size ≤ b) v V.packed.length (bools V.packed) ∧ Below w.heap.size w w' := by
 have HU := Lib.hid (h.grow (below_new w (.cells #[u] 25)))
 have hsu := h.store
 have HA := Lib.hid (At1.new w u 25)
 have a0 := HA.out.2.1; have HOK := Lib.hid hok; clear h hok
 go_enter Tryz.func170, Tryz.ntmps170
 go_wp2_with fail
 refine (vpacked_calls _ V _ HU.out).mono ?_
 rintro e W1 ⟨vb, rfl, hbt, hB⟩
 have HBT := Lib.hid hbt
 obtain ⟨so, sc, rfl, _⟩ := hbt.opened
 have HB := Lib.hid (show Below w.heap.size w W1 from (below_new _ _).trans (hB.mono (by simp)))
 clear hbt hB a0
 obtain ⟨W2, hW2⟩ : ∃ W2, W1.alloc (.cells #[.int .i64 (V.packed.length : Int), .slice so ((V.packed.length + 63) / 64) sc] 63) = W2 := ⟨_, rfl⟩
 have HB2 := Lib.hid (show Below W1.heap.size W1 W2 by rw [← hW2]; exact below_new _ _)
 have HA2 := Lib.hid (show At2 W2 W1.heap.size (.int .i64 (V.packed.length : Int)) (.slice so ((V.packed.length + 63) / 64) sc) by rw [← hW2]; exact At2.new _ _ _ _)
 have HBT2 := Lib.hid (HBT.out.keep (keep_below HB2.out))
 have HBW := Lib.hid (HB.out.trans (HB2.out.mono HB.out.size))
 have b0 := HA2.out.2.1; have b1 := HA2.out.2.2.1
 go_wp2_with fail
 clear hW2
 refine (unpack_slc _ V.packed _ HBT2.out (VV.packed_ok HOK.out)).mono ?_
 rintro e W3 ⟨v, rfl, hv, hB3⟩
 have HV := Lib.hid (show Slc W3 (fun b => w.heap.size ≤ b) v V.packed.length (bools V.packed) from hv.keep (Kept.refl _ _) (fun b _ (h : _ ≤ b) => Nat.le_trans HBW.out.size h))
 obtain ⟨vo, vc, rfl, _⟩ := hv.opened
 have HB3 := Lib.hid (HBW.out.trans (hB3.mono HBW.out.size))
 clear hv hB3 b0 b1
 go_wp2_with fail
 go_ret
 exact ⟨_, rfl, HV.out, HB3.out⟩

theorem info_slF : (Tryz.prog.info? 22).map (fun i => (i.zero, i.size, i.bytes)) = some (some (.slice none 0 0), 1, 24) := by kernel_rfl
theorem run_mkSF (n : Nat) (hn : n ≤ 2000000) (w : World) : (Instr.makeSlice 217 (.int .i64 (n : Int)) (.int .i64 (n : Int))).run Tryz.prog w = .ok (.slice (some ⟨w.heap.size, 0, none⟩) n n) (w.alloc (.cells (zerosV (.slice none 0 0) n) 22)) := by
 obtain ⟨i0, hi, hz0, hz1, hz2⟩ := info_parts info_slF
 have hr := run_make (P := Tryz.prog) w 217 22 i0 _ Tryz.underlying217 hi hz0 .i64 .i64 n n (by omega) (Int.le_refl _) (by rw [hz2]; omega) (by omega)
 simp only [Int.toNat_natCast, hz1] at hr
 exact hr

set_option maxHeartbeats 4000000 in
theorem joinF_calls {ok : Nat → Prop} (v : Value) (Z : List (Value × VV)) (w : World) (hz : VecsZ w ok v Z) (hm : Z.length ≤ 1000000) (hok : ∀ p ∈ Z, p.2.ok) (hsm : (Z.flatMap fun p => p.2.nums).length ≤ 2000000) (hT : TabAt w) :
  Calls Tryz.prog 175 #[v, .func (.func 13) #[] #[]] w fun e w' => ∃ z, e = .returned z ∧ Slc w' (fun b => w.heap.size ≤ b) z (Z.flatMap fun p => p.2.nums).length (f64s (Z.flatMap fun p => p.2.nums)) ∧ Below w.heap.size w w' := by
 have HZ := Lib.hid (hz.keep (Kept.refl _ _) (ok' := fun b => b < w.heap.size) (fun b h _ => h))
 have HOK := Lib.hid hok; have HT := Lib.hid hT; have HSM := Lib.hid hsm
 obtain ⟨ao, cap, rfl, _⟩ := hz.1.opened
 have hmk := run_mkSF Z.length (by omega) w
 obtain ⟨W0, hW0⟩ : ∃ W0, W0 = w.alloc (.cells (zerosV (.slice none 0 0) Z.length) 22) := ⟨_, rfl⟩
 have HO0 := Lib.hid (show W0.ownsRow w.heap.size 22 1 (.slice (some ⟨w.heap.size, 0, none⟩) Z.length Z.length) Z.length (List.replicate Z.length (.slice none 0 0)) by rw [hW0]; exact own_make1 _ _ _ (by omega) _ _ (Nat.le_refl _))
 have HW := Lib.hid (show Below w.heap.size w W0 by rw [hW0]; exact below_new _ _)
 clear hz hok hT
 go_enter Tryz.func175, Tryz.ntmps175
 go_wp2_with fail
 rw [← hW0]
 clear hW0 hmk
 go_loopw [13] (fun i wr => ∃ (k : Nat) (xs : List Value), k ≤ Z.length ∧ i = .int .i64 k ∧ xs.length = k ∧ wr.ownsRow w.heap.size 22 1 (.slice (some ⟨w.heap.size, 0, none⟩) Z.length Z.length) Z.length (xs ++ List.replicate (Z.length - k) (.slice none 0 0)) ∧ (∀ (i : Nat) (p : Value × VV) (x : Value), Z[i]? = some p → xs[i]? = some x → Slc wr (fun b => b < w.heap.size ∨ w.heap.size < b) x p.2.nums.length (f64s p.2.nums)) ∧ W0.grownBy wr (some w.heap.size)) (fun i _ => Z.length - (intOf i).toNat)
 case atStart => exact ⟨0, [], by omega, rfl, rfl, HO0.out, fun i p x _ h => by simp at h, grown_refl _ _⟩
 case round =>
  obtain ⟨k, xs, hk, rfl, hxl, hown, hX, hgr⟩ := hrel
  have HO := Lib.hid hown; have HG := Lib.hid hgr; have HX := Lib.hid hX; have HXL := Lib.hid hxl
  have HB := Lib.hid (HW.out.grown hgr HW.out.size (fun j hj => by cases hj; omega))
  have HGS := Lib.hid (hown.lt w.heap.size rfl).2
  clear hown hgr hX hxl
  by_cases hlt : k < Z.length
  ·obtain ⟨b, off, p, rfl, hp, c0, hv⟩ := HZ.out.at hlt
   have c0 := keep_below HB.out _ _ c0
   have hsv := hv.store
   obtain ⟨pu, pV⟩ := p
   have HP := Lib.hid hp
   have HPK := Lib.hid (HOK.out _ (List.mem_of_getElem? hp))
   have HV := Lib.hid (show IsV (wr.alloc (.cells #[pu] 25)) (fun b => b < w.heap.size) pu pV from (hv.grow HB.out).grow (below_new _ _))
   have a0 := (At1.new wr pu 25).2.1
   have HT1 := Lib.hid (show TabAt (wr.alloc (.cells #[pu] 25)) from fun j hj => keep_below (HB.out.alloc HB.out.size _) _ _ (HT.out j hj))
   simp only at c0
   clear hp hv
   go_wp2_with fail
   refine (vnums_calls _ pV _ HV.out HPK.out HT1.out).mono ?_
   rintro e W3 ⟨v3, rfl, hv3, hB3⟩
   have HBr3 := Lib.hid (show Below wr.heap.size wr W3 from (below_new _ _).trans (hB3.mono (by simp)))
   have HV3 := Lib.hid (show Slc W3 (fun b => b < w.heap.size ∨ w.heap.size < b) v3 pV.nums.length (f64s pV.nums) from hv3.keep (Kept.refl _ _) (fun b _ (h : _ ≤ b) => Or.inr (by have := HGS.out; simp at h; omega)))
   obtain ⟨vo, vc, rfl, _⟩ := hv3.opened
   clear hv3 hB3 a0
   have HO3 := Lib.hid (owns_below2 HO.out HBr3.out)
   have HX3 := Lib.hid (show ∀ (i : Nat) (p : Value × VV) (x : Value), Z[i]? = some p → xs[i]? = some x → Slc W3 (fun b => b < w.heap.size ∨ w.heap.size < b) x p.2.nums.length (f64s p.2.nums) from fun i p x h1 h2 => (HX.out i p x h1 h2).keep (Kept.below HBr3.out) (fun _ _ h => h))
   have HG3 := Lib.hid (grown_trans HG.out (grown_any (below_grown HBr3.out) _))
   have hcw := owns_cell2 HO3.out k (by simp; have := HXL.out; omega)
   have hfr := World.ownsRow.frozenAt HO3.out k
   go_wp2_with fail
   go_roundw
   case rel =>
    refine ⟨k + 1, xs ++ [.slice vo pV.nums.length vc], by omega, by go_num, by simp [HXL.out], ?_, ?_, grown_trans HG3.out (grown_setCell _ ⟨w.heap.size, k, none⟩ _)⟩
    ·have := (World.ownsRow.stored HO3.out k (.slice vo pV.nums.length vc)).1
     rwa [row_set HXL.out hlt] at this
    ·intro i p x hp hx
     have hkk : Kept (fun b => (b < w.heap.size) ∨ w.heap.size < b) W3 (W3.setCell ⟨w.heap.size, k, none⟩ (.slice vo pV.nums.length vc)) := Kept.setCell _ _ _ (by simp)
     by_cases e : i < k
     ·rw [List.getElem?_append_left (by rw [HXL.out]; exact e)] at hx
      exact (HX3.out i p x hp hx).keep hkk (fun _ _ h => h)
     ·have e2 : i = k := by have := (List.getElem?_eq_some_iff.1 hx).1; simp [HXL.out] at this; omega
      subst e2
      rw [List.getElem?_append_right (by rw [HXL.out]; exact Nat.le_refl _), HXL.out, Nat.sub_self] at hx
      obtain rfl := Option.some.inj hx
      obtain rfl := Option.some.inj (HP.out.symm.trans hp)
      exact HV3.out.keep hkk (fun _ _ h => h)
   case measure => simp [intOf]; omega
  ·have hkl : k = Z.length := by omega
   subst hkl
   clear hlt
   have HROW := Lib.hid (show RowsG (Value.float .f64) wr (fun b => b < w.heap.size ∨ w.heap.size < b) (.slice (some ⟨w.heap.size, 0, none⟩) Z.length Z.length) (Z.map fun p => p.2.nums) by
    refine ⟨some ⟨w.heap.size, 0, none⟩, Z.length, by simp, fun i hi => ?_⟩
    have hi : i < Z.length := by simpa using hi
    have hix : i < xs.length := by rw [HXL.out]; exact hi
    refine ⟨w.heap.size, 0, xs[i], rfl, ?_, ?_⟩
    ·have := owns_cell2 HO.out i (by simp; omega)
     rw [Nat.zero_add, this, List.getElem_append_left hix]
    ·have := HX.out i Z[i] xs[i] (List.getElem?_eq_getElem hi) (List.getElem?_eq_getElem hix)
     simpa [f64s] using this)
   have HFL := Lib.hid (show (Z.map fun p => p.2.nums).flatten = Z.flatMap fun p => p.2.nums from (List.flatMap_def).symm)
   go_wp2_with fail
   refine (catF_calls _ _ _ HROW.out (by simp; omega) (by rw [HFL.out]; exact HSM.out)).mono ?_
   rintro e W ⟨z, rfl, hz, hB2⟩
   rw [HFL.out] at hz
   have HB2 := Lib.hid (HB.out.trans (hB2.mono HB.out.size))
   have HZ2 := Lib.hid (hz.keep (Kept.refl _ _) (ok' := fun b => w.heap.size ≤ b) (fun b _ (h : _ ≤ b) => Nat.le_trans HB.out.size h))
   obtain ⟨zo, zc, rfl, _⟩ := hz.opened
   clear hz hB2
   obtain ⟨ZL, hZL⟩ : ∃ ZL, ZL = (Z.flatMap fun p => p.2.nums) := ⟨_, rfl⟩
   have HZL := Lib.hid hZL
   rw [← hZL] at HZ2 ⊢
   clear hZL
   go_wp2_with fail
   go_ret
   exact ⟨_, rfl, by rw [← HZL.out]; exact HZ2.out, HB2.out⟩

theorem info_slC : (Tryz.prog.info? 47).map (fun i => (i.zero, i.size, i.bytes)) = some (some (.slice none 0 0), 1, 24) := by kernel_rfl
theorem run_mkSC (n : Nat) (hn : n ≤ 2000000) (w : World) : (Instr.makeSlice 212 (.int .i64 (n : Int)) (.int .i64 (n : Int))).run Tryz.prog w = .ok (.slice (some ⟨w.heap.size, 0, none⟩) n n) (w.alloc (.cells (zerosV (.slice none 0 0) n) 47)) := by
 obtain ⟨i0, hi, hz0, hz1, hz2⟩ := info_parts info_slC
 have hr := run_make (P := Tryz.prog) w 212 47 i0 _ Tryz.underlying212 hi hz0 .i64 .i64 n n (by omega) (Int.le_refl _) (by rw [hz2]; omega) (by omega)
 simp only [Int.toNat_natCast, hz1] at hr
 exact hr

set_option maxHeartbeats 4000000 in
theorem joinC_calls {ok : Nat → Prop} (v : Value) (Z : List (Value × VV)) (w : World) (hz : VecsZ w ok v Z) (hm : Z.length ≤ 1000000) (hok : ∀ p ∈ Z, p.2.ok) (hsm : (Z.flatMap fun p => p.2.text).length ≤ 2000000) (hT : TabAt w) :
  Calls Tryz.prog 171 #[v, .func (.func 23) #[] #[]] w fun e w' => ∃ z, e = .returned z ∧ Slc w' (fun b => w.heap.size ≤ b) z (Z.flatMap fun p => p.2.text).length (i32s (Z.flatMap fun p => p.2.text)) ∧ Below w.heap.size w w' := by
 have HZ := Lib.hid (hz.keep (Kept.refl _ _) (ok' := fun b => b < w.heap.size) (fun b h _ => h))
 have HOK := Lib.hid hok; have HT := Lib.hid hT; have HSM := Lib.hid hsm
 obtain ⟨ao, cap, rfl, _⟩ := hz.1.opened
 have hmk := run_mkSC Z.length (by omega) w
 obtain ⟨W0, hW0⟩ : ∃ W0, W0 = w.alloc (.cells (zerosV (.slice none 0 0) Z.length) 47) := ⟨_, rfl⟩
 have HO0 := Lib.hid (show W0.ownsRow w.heap.size 47 1 (.slice (some ⟨w.heap.size, 0, none⟩) Z.length Z.length) Z.length (List.replicate Z.length (.slice none 0 0)) by rw [hW0]; exact own_make1 _ _ _ (by omega) _ _ (Nat.le_refl _))
 have HW := Lib.hid (show Below w.heap.size w W0 by rw [hW0]; exact below_new _ _)
 clear hz hok hT
 go_enter Tryz.func171, Tryz.ntmps171
 go_wp2_with fail
 rw [← hW0]
 clear hW0 hmk
 go_loopw [13] (fun i wr => ∃ (k : Nat) (xs : List Value), k ≤ Z.length ∧ i = .int .i64 k ∧ xs.length = k ∧ wr.ownsRow w.heap.size 47 1 (.slice (some ⟨w.heap.size, 0, none⟩) Z.length Z.length) Z.length (xs ++ List.replicate (Z.length - k) (.slice none 0 0)) ∧ (∀ (i : Nat) (p : Value × VV) (x : Value), Z[i]? = some p → xs[i]? = some x → Slc wr (fun b => b < w.heap.size ∨ w.heap.size < b) x p.2.text.length (i32s p.2.text)) ∧ W0.grownBy wr (some w.heap.size)) (fun i _ => Z.length - (intOf i).toNat)
 case atStart => exact ⟨0, [], by omega, rfl, rfl, HO0.out, fun i p x _ h => by simp at h, grown_refl _ _⟩
 case round =>
  obtain ⟨k, xs, hk, rfl, hxl, hown, hX, hgr⟩ := hrel
  have HO := Lib.hid hown; have HG := Lib.hid hgr; have HX := Lib.hid hX; have HXL := Lib.hid hxl
  have HB := Lib.hid (HW.out.grown hgr HW.out.size (fun j hj => by cases hj; omega))
  have HGS := Lib.hid (hown.lt w.heap.size rfl).2
  clear hown hgr hX hxl
  by_cases hlt : k < Z.length
  ·obtain ⟨b, off, p, rfl, hp, c0, hv⟩ := HZ.out.at hlt
   have c0 := keep_below HB.out _ _ c0
   have hsv := hv.store
   obtain ⟨pu, pV⟩ := p
   have HP := Lib.hid hp
   have HPK := Lib.hid (HOK.out _ (List.mem_of_getElem? hp))
   have HV := Lib.hid (show IsV (wr.alloc (.cells #[pu] 25)) (fun b => b < w.heap.size) pu pV from (hv.grow HB.out).grow (below_new _ _))
   have a0 := (At1.new wr pu 25).2.1
   have HT1 := Lib.hid (show TabAt (wr.alloc (.cells #[pu] 25)) from fun j hj => keep_below (HB.out.alloc HB.out.size _) _ _ (HT.out j hj))
   simp only at c0
   clear hp hv
   go_wp2_with fail
   refine (vtext_calls _ pV _ HV.out HPK.out).mono ?_
   rintro e W3 ⟨v3, rfl, hv3, hB3⟩
   have HBr3 := Lib.hid (show Below wr.heap.size wr W3 from (below_new _ _).trans (hB3.mono (by simp)))
   have HV3 := Lib.hid (show Slc W3 (fun b => b < w.heap.size ∨ w.heap.size < b) v3 pV.text.length (i32s pV.text) from hv3.keep (Kept.refl _ _) (fun b _ (h : _ ≤ b) => Or.inr (by have := HGS.out; simp at h; omega)))
   obtain ⟨vo, vc, rfl, _⟩ := hv3.opened
   clear hv3 hB3 a0
   have HO3 := Lib.hid (owns_below2 HO.out HBr3.out)
   have HX3 := Lib.hid (show ∀ (i : Nat) (p : Value × VV) (x : Value), Z[i]? = some p → xs[i]? = some x → Slc W3 (fun b => b < w.heap.size ∨ w.heap.size < b) x p.2.text.length (i32s p.2.text) from fun i p x h1 h2 => (HX.out i p x h1 h2).keep (Kept.below HBr3.out) (fun _ _ h => h))
   have HG3 := Lib.hid (grown_trans HG.out (grown_any (below_grown HBr3.out) _))
   have hcw := owns_cell2 HO3.out k (by simp; have := HXL.out; omega)
   have hfr := World.ownsRow.frozenAt HO3.out k
   go_wp2_with fail
   go_roundw
   case rel =>
    refine ⟨k + 1, xs ++ [.slice vo pV.text.length vc], by omega, by go_num, by simp [HXL.out], ?_, ?_, grown_trans HG3.out (grown_setCell _ ⟨w.heap.size, k, none⟩ _)⟩
    ·have := (World.ownsRow.stored HO3.out k (.slice vo pV.text.length vc)).1
     rwa [row_set HXL.out hlt] at this
    ·intro i p x hp hx
     have hkk : Kept (fun b => (b < w.heap.size) ∨ w.heap.size < b) W3 (W3.setCell ⟨w.heap.size, k, none⟩ (.slice vo pV.text.length vc)) := Kept.setCell _ _ _ (by simp)
     by_cases e : i < k
     ·rw [List.getElem?_append_left (by rw [HXL.out]; exact e)] at hx
      exact (HX3.out i p x hp hx).keep hkk (fun _ _ h => h)
     ·have e2 : i = k := by have := (List.getElem?_eq_some_iff.1 hx).1; simp [HXL.out] at this; omega
      subst e2
      rw [List.getElem?_append_right (by rw [HXL.out]; exact Nat.le_refl _), HXL.out, Nat.sub_self] at hx
      obtain rfl := Option.some.inj hx
      obtain rfl := Option.some.inj (HP.out.symm.trans hp)
      exact HV3.out.keep hkk (fun _ _ h => h)
   case measure => simp [intOf]; omega
  ·have hkl : k = Z.length := by omega
   subst hkl
   clear hlt
   have HROW := Lib.hid (show RowsG (Value.int .i32) wr (fun b => b < w.heap.size ∨ w.heap.size < b) (.slice (some ⟨w.heap.size, 0, none⟩) Z.length Z.length) (Z.map fun p => p.2.text) by
    refine ⟨some ⟨w.heap.size, 0, none⟩, Z.length, by simp, fun i hi => ?_⟩
    have hi : i < Z.length := by simpa using hi
    have hix : i < xs.length := by rw [HXL.out]; exact hi
    refine ⟨w.heap.size, 0, xs[i], rfl, ?_, ?_⟩
    ·have := owns_cell2 HO.out i (by simp; omega)
     rw [Nat.zero_add, this, List.getElem_append_left hix]
    ·have := HX.out i Z[i] xs[i] (List.getElem?_eq_getElem hi) (List.getElem?_eq_getElem hix)
     simpa [i32s] using this)
   have HFL := Lib.hid (show (Z.map fun p => p.2.text).flatten = Z.flatMap fun p => p.2.text from (List.flatMap_def).symm)
   go_wp2_with fail
   refine (catC_calls _ _ _ HROW.out (by simp; omega) (by rw [HFL.out]; exact HSM.out)).mono ?_
   rintro e W ⟨z, rfl, hz, hB2⟩
   rw [HFL.out] at hz
   have HB2 := Lib.hid (HB.out.trans (hB2.mono HB.out.size))
   have HZ2 := Lib.hid (hz.keep (Kept.refl _ _) (ok' := fun b => w.heap.size ≤ b) (fun b _ (h : _ ≤ b) => Nat.le_trans HB.out.size h))
   obtain ⟨zo, zc, rfl, _⟩ := hz.opened
   clear hz hB2
   obtain ⟨ZL, hZL⟩ : ∃ ZL, ZL = (Z.flatMap fun p => p.2.text) := ⟨_, rfl⟩
   have HZL := Lib.hid hZL
   rw [← hZL] at HZ2 ⊢
   clear hZL
   go_wp2_with fail
   go_ret
   exact ⟨_, rfl, by rw [← HZL.out]; exact HZ2.out, HB2.out⟩

theorem info_slB : (Tryz.prog.info? 40).map (fun i => (i.zero, i.size, i.bytes)) = some (some (.slice none 0 0), 1, 24) := by kernel_rfl
theorem run_mkSB (n : Nat) (hn : n ≤ 2000000) (w : World) : (Instr.makeSlice 210 (.int .i64 (n : Int)) (.int .i64 (n : Int))).run Tryz.prog w = .ok (.slice (some ⟨w.heap.size, 0, none⟩) n n) (w.alloc (.cells (zerosV (.slice none 0 0) n) 40)) := by
 obtain ⟨i0, hi, hz0, hz1, hz2⟩ := info_parts info_slB
 have hr := run_make (P := Tryz.prog) w 210 40 i0 _ Tryz.underlying210 hi hz0 .i64 .i64 n n (by omega) (Int.le_refl _) (by rw [hz2]; omega) (by omega)
 simp only [Int.toNat_natCast, hz1] at hr
 exact hr

set_option maxHeartbeats 4000000 in
theorem joinB_calls {ok : Nat → Prop} (v : Value) (Z : List (Value × VV)) (w : World) (hz : VecsZ w ok v Z) (hm : Z.length ≤ 1000000) (hok : ∀ p ∈ Z, p.2.ok) (hsm : (Z.flatMap fun p => p.2.packed).length ≤ 2000000) (hT : TabAt w) :
  Calls Tryz.prog 169 #[v, .func (.func 170) #[] #[]] w fun e w' => ∃ z, e = .returned z ∧ Slc w' (fun b => w.heap.size ≤ b) z (Z.flatMap fun p => p.2.packed).length (bools (Z.flatMap fun p => p.2.packed)) ∧ Below w.heap.size w w' := by
 have HZ := Lib.hid (hz.keep (Kept.refl _ _) (ok' := fun b => b < w.heap.size) (fun b h _ => h))
 have HOK := Lib.hid hok; have HT := Lib.hid hT; have HSM := Lib.hid hsm
 obtain ⟨ao, cap, rfl, _⟩ := hz.1.opened
 have hmk := run_mkSB Z.length (by omega) w
 obtain ⟨W0, hW0⟩ : ∃ W0, W0 = w.alloc (.cells (zerosV (.slice none 0 0) Z.length) 40) := ⟨_, rfl⟩
 have HO0 := Lib.hid (show W0.ownsRow w.heap.size 40 1 (.slice (some ⟨w.heap.size, 0, none⟩) Z.length Z.length) Z.length (List.replicate Z.length (.slice none 0 0)) by rw [hW0]; exact own_make1 _ _ _ (by omega) _ _ (Nat.le_refl _))
 have HW := Lib.hid (show Below w.heap.size w W0 by rw [hW0]; exact below_new _ _)
 clear hz hok hT
 go_enter Tryz.func169, Tryz.ntmps169
 go_wp2_with fail
 rw [← hW0]
 clear hW0 hmk
 go_loopw [13] (fun i wr => ∃ (k : Nat) (xs : List Value), k ≤ Z.length ∧ i = .int .i64 k ∧ xs.length = k ∧ wr.ownsRow w.heap.size 40 1 (.slice (some ⟨w.heap.size, 0, none⟩) Z.length Z.length) Z.length (xs ++ List.replicate (Z.length - k) (.slice none 0 0)) ∧ (∀ (i : Nat) (p : Value × VV) (x : Value), Z[i]? = some p → xs[i]? = some x → Slc wr (fun b => b < w.heap.size ∨ w.heap.size < b) x p.2.packed.length (bools p.2.packed)) ∧ W0.grownBy wr (some w.heap.size)) (fun i _ => Z.length - (intOf i).toNat)
 case atStart => exact ⟨0, [], by omega, rfl, rfl, HO0.out, fun i p x _ h => by simp at h, grown_refl _ _⟩
 case round =>
  obtain ⟨k, xs, hk, rfl, hxl, hown, hX, hgr⟩ := hrel
  have HO := Lib.hid hown; have HG := Lib.hid hgr; have HX := Lib.hid hX; have HXL := Lib.hid hxl
  have HB := Lib.hid (HW.out.grown hgr HW.out.size (fun j hj => by cases hj; omega))
  have HGS := Lib.hid (hown.lt w.heap.size rfl).2
  clear hown hgr hX hxl
  by_cases hlt : k < Z.length
  ·obtain ⟨b, off, p, rfl, hp, c0, hv⟩ := HZ.out.at hlt
   have c0 := keep_below HB.out _ _ c0
   have hsv := hv.store
   obtain ⟨pu, pV⟩ := p
   have HP := Lib.hid hp
   have HPK := Lib.hid (HOK.out _ (List.mem_of_getElem? hp))
   have HV := Lib.hid (show IsV (wr.alloc (.cells #[pu] 25)) (fun b => b < w.heap.size) pu pV from (hv.grow HB.out).grow (below_new _ _))
   have a0 := (At1.new wr pu 25).2.1
   have HT1 := Lib.hid (show TabAt (wr.alloc (.cells #[pu] 25)) from fun j hj => keep_below (HB.out.alloc HB.out.size _) _ _ (HT.out j hj))
   simp only at c0
   clear hp hv
   go_wp2_with fail
   refine (flags8_calls _ pV _ HV.out HPK.out).mono ?_
   rintro e W3 ⟨v3, rfl, hv3, hB3⟩
   have HBr3 := Lib.hid (show Below wr.heap.size wr W3 from (below_new _ _).trans (hB3.mono (by simp)))
   have HV3 := Lib.hid (show Slc W3 (fun b => b < w.heap.size ∨ w.heap.size < b) v3 pV.packed.length (bools pV.packed) from hv3.keep (Kept.refl _ _) (fun b _ (h : _ ≤ b) => Or.inr (by have := HGS.out; simp at h; omega)))
   obtain ⟨vo, vc, rfl, _⟩ := hv3.opened
   clear hv3 hB3 a0
   have HO3 := Lib.hid (owns_below2 HO.out HBr3.out)
   have HX3 := Lib.hid (show ∀ (i : Nat) (p : Value × VV) (x : Value), Z[i]? = some p → xs[i]? = some x → Slc W3 (fun b => b < w.heap.size ∨ w.heap.size < b) x p.2.packed.length (bools p.2.packed) from fun i p x h1 h2 => (HX.out i p x h1 h2).keep (Kept.below HBr3.out) (fun _ _ h => h))
   have HG3 := Lib.hid (grown_trans HG.out (grown_any (below_grown HBr3.out) _))
   have hcw := owns_cell2 HO3.out k (by simp; have := HXL.out; omega)
   have hfr := World.ownsRow.frozenAt HO3.out k
   go_wp2_with fail
   go_roundw
   case rel =>
    refine ⟨k + 1, xs ++ [.slice vo pV.packed.length vc], by omega, by go_num, by simp [HXL.out], ?_, ?_, grown_trans HG3.out (grown_setCell _ ⟨w.heap.size, k, none⟩ _)⟩
    ·have := (World.ownsRow.stored HO3.out k (.slice vo pV.packed.length vc)).1
     rwa [row_set HXL.out hlt] at this
    ·intro i p x hp hx
     have hkk : Kept (fun b => (b < w.heap.size) ∨ w.heap.size < b) W3 (W3.setCell ⟨w.heap.size, k, none⟩ (.slice vo pV.packed.length vc)) := Kept.setCell _ _ _ (by simp)
     by_cases e : i < k
     ·rw [List.getElem?_append_left (by rw [HXL.out]; exact e)] at hx
      exact (HX3.out i p x hp hx).keep hkk (fun _ _ h => h)
     ·have e2 : i = k := by have := (List.getElem?_eq_some_iff.1 hx).1; simp [HXL.out] at this; omega
      subst e2
      rw [List.getElem?_append_right (by rw [HXL.out]; exact Nat.le_refl _), HXL.out, Nat.sub_self] at hx
      obtain rfl := Option.some.inj hx
      obtain rfl := Option.some.inj (HP.out.symm.trans hp)
      exact HV3.out.keep hkk (fun _ _ h => h)
   case measure => simp [intOf]; omega
  ·have hkl : k = Z.length := by omega
   subst hkl
   clear hlt
   have HROW := Lib.hid (show RowsG (Value.bool) wr (fun b => b < w.heap.size ∨ w.heap.size < b) (.slice (some ⟨w.heap.size, 0, none⟩) Z.length Z.length) (Z.map fun p => p.2.packed) by
    refine ⟨some ⟨w.heap.size, 0, none⟩, Z.length, by simp, fun i hi => ?_⟩
    have hi : i < Z.length := by simpa using hi
    have hix : i < xs.length := by rw [HXL.out]; exact hi
    refine ⟨w.heap.size, 0, xs[i], rfl, ?_, ?_⟩
    ·have := owns_cell2 HO.out i (by simp; omega)
     rw [Nat.zero_add, this, List.getElem_append_left hix]
    ·have := HX.out i Z[i] xs[i] (List.getElem?_eq_getElem hi) (List.getElem?_eq_getElem hix)
     simpa [bools] using this)
   have HFL := Lib.hid (show (Z.map fun p => p.2.packed).flatten = Z.flatMap fun p => p.2.packed from (List.flatMap_def).symm)
   go_wp2_with fail
   refine (catB_calls _ _ _ HROW.out (by simp; omega) (by rw [HFL.out]; exact HSM.out)).mono ?_
   rintro e W ⟨z, rfl, hz, hB2⟩
   rw [HFL.out] at hz
   have HB2 := Lib.hid (HB.out.trans (hB2.mono HB.out.size))
   have HZ2 := Lib.hid (hz.keep (Kept.refl _ _) (ok' := fun b => w.heap.size ≤ b) (fun b _ (h : _ ≤ b) => Nat.le_trans HB.out.size h))
   obtain ⟨zo, zc, rfl, _⟩ := hz.opened
   clear hz hB2
   obtain ⟨ZL, hZL⟩ : ∃ ZL, ZL = (Z.flatMap fun p => p.2.packed) := ⟨_, rfl⟩
   have HZL := Lib.hid hZL
   rw [← hZL] at HZ2 ⊢
   clear hZL
   go_wp2_with fail
   go_ret
   exact ⟨_, rfl, by rw [← HZL.out]; exact HZ2.out, HB2.out⟩
end Go.Proofs.YtbacchbcanlciaaGreatDoor

namespace Go.Proofs.YtbacchbcanlciaaGreatDoor
set_option maxRecDepth 100000
open Go.RowKit Fl
set_option linter.unusedVariables false

def flatP (P : List (Value × Value)) : List Value := P.flatMap fun p => [p.1, p.2]
theorem flatP_len (P : List (Value × Value)) : (flatP P).length = P.length * 2 := by
 induction P with
 | nil => rfl
 | cons t L ih => simp only [flatP, List.flatMap_cons, List.length_append] at ih ⊢; rw [ih]; simp; omega
theorem flatP_app (P Q : List (Value × Value)) : flatP (P ++ Q) = flatP P ++ flatP Q := by simp [flatP]
theorem flatP_at {P : List (Value × Value)} {i : Nat} {p : Value × Value} (h : P[i]? = some p) : (flatP P)[i * 2]? = some p.1 ∧ (flatP P)[i * 2 + 1]? = some p.2 := by
 obtain ⟨hk, e⟩ := List.getElem?_eq_some_iff.1 h
 have hl : P = P.take i ++ ([p] ++ P.drop (i + 1)) := by rw [← e]; simp
 have hlen : (flatP (P.take i)).length = i * 2 := by rw [flatP_len, List.length_take]; omega
 have hf : flatP P = flatP (P.take i) ++ ([p.1, p.2] ++ flatP (P.drop (i + 1))) := by
  conv => lhs; rw [hl]
  simp [flatP]
 rw [hf]
 exact ⟨by rw [List.getElem?_append_right (by omega), hlen]; simp, by rw [List.getElem?_append_right (by omega), hlen, Nat.add_sub_cancel_left]; rfl⟩
theorem flatP_get {P : List (Value × Value)} {j : Nat} {u : Value} (h : (flatP P)[j]? = some u) : ∃ p, P[j / 2]? = some p ∧ u = if j % 2 = 0 then p.1 else p.2 := by
 have hj := (List.getElem?_eq_some_iff.1 h).1
 rw [flatP_len] at hj
 have hk : j / 2 < P.length := by omega
 refine ⟨P[j / 2], List.getElem?_eq_getElem hk, ?_⟩
 obtain ⟨h0, h1⟩ := flatP_at (List.getElem?_eq_getElem hk)
 by_cases e : j % 2 = 0
 ·rw [if_pos e]
  rw [show j / 2 * 2 = j by omega, h] at h0
  exact Option.some.inj h0
 ·rw [if_neg e]
  rw [show j / 2 * 2 + 1 = j by omega, h] at h1
  exact Option.some.inj h1
def PairsOK (w : World) (ok : Nat → Prop) (P : List (Value × Value)) (l : List (List Int × VV)) : Prop :=
 P.length = l.length ∧ ∀ (i : Nat) p q, P[i]? = some p → l[i]? = some q → IsArr w ok p.1 p.2 q
theorem PairsOK.app {w : World} {ok : Nat → Prop} {P Q : List (Value × Value)} {l m : List (List Int × VV)} (h : PairsOK w ok P l) (k : PairsOK w ok Q m) : PairsOK w ok (P ++ Q) (l ++ m) := by
 refine ⟨by simp [h.1, k.1], fun i p q hp hq => ?_⟩
 by_cases hi : i < P.length
 ·rw [List.getElem?_append_left hi] at hp
  rw [List.getElem?_append_left (by rw [← h.1]; exact hi)] at hq
  exact h.2 i p q hp hq
 ·rw [List.getElem?_append_right (by omega)] at hp
  rw [List.getElem?_append_right (by rw [← h.1]; omega), ← h.1] at hq
  exact k.2 _ p q hp hq
theorem arrs_owned {w : World} {ok : Nat → Prop} {base n : Nat} {v : Value} {P : List (Value × Value)} {l : List (List Int × VV)} (ho : w.ownsRow base 113 2 v n (flatP P)) (h : PairsOK w ok P l) : Arrs w (fun b => ok b ∨ base ≤ b) v l := by
 have hn : n = l.length := by have := ho.1; rw [flatP_len, h.1] at this; omega
 subst hn
 rcases ho.2 with ⟨rfl, hl0⟩ | ⟨g, cap, cur, rfl, hb, hg, hnc, hcm, hcs, htake⟩
 ·have : l = [] := List.eq_nil_of_length_eq_zero hl0
  subst this
  exact Arrs.nil _ _
 ·refine ⟨_, cap, fun i => (P[i]?.map Prod.fst).getD undef, fun i => (P[i]?.map Prod.snd).getD undef, rfl, hnc, hcm, fun i hi => ?_, fun i hi => ?_, fun i hi => ?_⟩
  ·have hp : i < P.length := by rw [h.1]; exact hi
   have e := List.getElem?_eq_getElem hp
   obtain ⟨c0, c1⟩ := flatP_at e
   refine ⟨g, 0, rfl, Or.inr hb, ?_, ?_⟩
   ·rw [Nat.zero_add, ho.cellAt (i * 2) (by omega), c0]; simp [e]
   ·rw [Nat.zero_add, ho.cellAt (i * 2 + 1) (by omega), c1]; simp [e]
  ·have hp : i < P.length := by rw [h.1]; exact hi
   have e := List.getElem?_eq_getElem hp
   have := (h.2 i _ _ e (List.getElem?_eq_getElem hi)).1.keep (Kept.refl _ _) (ok' := fun b => ok b ∨ base ≤ b) (fun _ _ h => Or.inl h)
   simpa [e] using this
  ·have hp : i < P.length := by rw [h.1]; exact hi
   have e := List.getElem?_eq_getElem hp
   have := (h.2 i _ _ e (List.getElem?_eq_getElem hi)).2.wide (ok' := fun b => ok b ∨ base ≤ b) (fun _ _ h => Or.inl h)
   simpa [e] using this
theorem Arrs.cells {w : World} {ok : Nat → Prop} {v : Value} {l : List (List Int × VV)} (h : Arrs w ok v l) (hl : 0 < l.length) :
  ∃ ad cap P, v = .slice (some ad) l.length cap ∧ PairsOK w ok P l ∧ (flatP P).length = l.length * 2 ∧ (∀ j u, (flatP P)[j]? = some u → w.cell? (ad.add j) = some u) ∧ (∀ u ∈ flatP P, u.oneCell' = true) := by
 obtain ⟨ao, cap, f, g, rfl, h1, h2, hc, hs, hv⟩ := h
 obtain ⟨b, off, rfl, _, _, _⟩ := hc 0 hl
 have hok : PairsOK w ok ((List.range l.length).map fun i => (f i, g i)) l := by
  refine ⟨by simp, fun i p q hp hq => ?_⟩
  obtain ⟨hi, e⟩ := List.getElem?_eq_some_iff.1 hq
  rw [List.getElem?_map, List.getElem?_range hi] at hp
  obtain rfl := Option.some.inj hp
  rw [← e]
  exact ⟨hs i hi, hv i hi⟩
 have hsome : ∀ j u, (flatP ((List.range l.length).map fun i => (f i, g i)))[j]? = some u → ∃ i, i < l.length ∧ i = j / 2 ∧ u = if j % 2 = 0 then f i else g i := by
  intro j u hu
  obtain ⟨p, hp, e⟩ := flatP_get hu
  have hi := (List.getElem?_eq_some_iff.1 hp).1
  have hi : j / 2 < l.length := by simpa using hi
  rw [List.getElem?_map, List.getElem?_range hi] at hp
  obtain rfl := Option.some.inj hp
  exact ⟨j / 2, hi, rfl, e⟩
 refine ⟨⟨b, off, none⟩, cap, _, rfl, hok, by rw [flatP_len]; simp, fun j u hu => ?_, fun u hu => ?_⟩
 ·obtain ⟨i, hi, e, rfl⟩ := hsome j u hu
  obtain ⟨b', off', e2, _, c0, c1⟩ := hc i hi
  cases e2
  rw [Go.WideShapes.add_plain]
  by_cases hj : j % 2 = 0
  ·rw [if_pos hj, show off + j = off + i * 2 by omega]; exact c0
  ·rw [if_neg hj, show off + j = off + i * 2 + 1 by omega]; exact c1
 ·obtain ⟨j, hj⟩ := List.getElem?_of_mem hu
  obtain ⟨i, hi, e, rfl⟩ := hsome j u hj
  by_cases hj : j % 2 = 0
  ·rw [if_pos hj]; obtain ⟨o, c, e, _⟩ := (hs i hi).opened; rw [e]; rfl
  ·rw [if_neg hj]; exact (hv i hi).one
def RowsA (w : World) (ok : Nat → Prop) (v : Value) (L : List (List (List Int × VV))) : Prop :=
 ∃ ao cap, v = .slice ao L.length cap ∧ ∀ i (h : i < L.length), ∃ b off u, ao = some ⟨b, off, none⟩ ∧ w.cell? ⟨b, off + i, none⟩ = some u ∧ Arrs w ok u L[i]
theorem RowsA.keep {w w' : World} {ok ok' : Nat → Prop} {v : Value} {L : List (List (List Int × VV))} (hb : Below w.heap.size w w') (hm : ∀ b, b < w.heap.size → ok b → ok' b) (h : RowsA w ok v L) : RowsA w' ok' v L := by
 obtain ⟨ao, cap, rfl, hc⟩ := h
 refine ⟨ao, cap, rfl, fun i hi => ?_⟩
 obtain ⟨b, off, u, e, h1, h2⟩ := hc i hi
 exact ⟨b, off, u, e, keep_below hb _ _ h1, h2.keep (Kept.below hb) hm⟩

set_option maxHeartbeats 2000000 in
theorem growA_calls (n : Nat) (hn : n ≤ 2000000) (w : World) :
  Calls Tryz.prog 223 #[.slice none 0 0, .int .i64 (n : Int)] w fun e w' => ∃ v, e = .returned v ∧ w'.ownsRow w.heap.size 113 2 v 0 [] ∧ Below w.heap.size w w' := by
 obtain ⟨i0, hi, hz0, hz1, hz2⟩ := info_parts info_arr
 by_cases h0 : n = 0
 ·subst h0
  go_enter Tryz.func223, Tryz.ntmps223
  go_wp2
  go_ret
  exact ⟨_, rfl, World.ownsRow_nil _ _ _ _, Below.refl _ _⟩
 ·have hpos : 0 < n := by omega
  have hold : (Builtin.firstCells i0.size 0 (.slice none 0 0)).run Tryz.prog w.drew = .ok (#[] : Array Value) w.drew := by simp [Builtin.firstCells]
  have hrz := Lib.run_append_grow_zeros w 72 3 72 113 i0 (.agg #[.slice none 0 0, .nilIface]) .i64 .i64 Tryz.underlying72 Tryz.underlying3 hi hz0 none 0 0 [] hold n hpos (by omega) (by omega) (by omega) (by rw [hz2]; omega)
   (by rw [Nat.zero_add]; exact growslice_fits hpos (by rw [hz2]; omega))
  rw [Nat.zero_add] at hrz
  have hge := grownCap_ge w n 0 113
  have hcm := grownCap_le_maxLen w n 0 113 (by unfold maxLen; omega)
  obtain ⟨G, hG⟩ : ∃ G, G = grownCap w n 0 113 := ⟨_, rfl⟩
  rw [← hG] at hrz hge hcm
  clear hold hG
  go_enter Tryz.func223, Tryz.ntmps223
  go_wp2_with (at_builtin; refine Lib.wpList_append_run _ rfl _ _ _ _ rfl _ _ rfl rfl _ _ hrz ?_)
  go_ret
  refine ⟨.slice (some ⟨w.heap.size, 0, none⟩) 0 G, rfl, ?_, ?_⟩
  ·have h := World.ownsRow_made (base := w.heap.size) (e := 113) (size := 2) w (Builtin.zeroCells #[Value.slice none 0 0, Value.nilIface] n ++ Builtin.zeroCells #[Value.slice none 0 0, Value.nilIface] (G - n)) G (Nat.le_refl _) hcm (by
    rw [Array.size_append, size_zeroCells, size_zeroCells]; simp; omega)
   exact h
  ·exact Below.drewN' ((Below.refl w.heap.size w).alloc (Nat.le_refl _) _) 1

set_option maxHeartbeats 4000000 in
theorem catA_calls {ok : Nat → Prop} (v : Value) (L : List (List (List Int × VV))) (w : World) (hv : RowsA w ok v L) (hl : L.length ≤ 1000000) (hne : ∀ l ∈ L, 0 < l.length) (hm : L.flatten.length ≤ 1048576) :
  Calls Tryz.prog 205 #[v] w fun e w' => ∃ z, e = .returned z ∧ Arrs w' (fun b => (ok b ∧ b < w.heap.size) ∨ w.heap.size ≤ b) z L.flatten ∧ Below w.heap.size w w' := by
 obtain ⟨i0, hi, hz0, hz1, hz2⟩ := info_parts info_arr
 have HV := Lib.hid (hv.keep (Below.refl _ _) (ok' := fun b => ok b ∧ b < w.heap.size) (fun b h h2 => ⟨h2, h⟩))
 have HNE := Lib.hid hne
 obtain ⟨ao, cap, rfl, _⟩ := hv
 have HM := Lib.hid (show ∀ k, k ≤ L.length → (L.take k).flatten.length ≤ 1048576 from fun k hk => Nat.le_trans (flatG_le L (L.length - k) k (by omega)) hm)
 have HI0 := Lib.hid (And.intro hi (And.intro hz0 (And.intro hz1 hz2)))
 clear hm hne hi hz0 hz1 hz2
 go_enter Tryz.func205, Tryz.ntmps205
 go_wp2
 go_loopw [3, 11] (fun a i wr => ∃ k : Nat, k ≤ L.length ∧ i = .int .i64 (k : Int) ∧ a = .int .i64 (((L.take k).flatten.length : Nat) : Int) ∧ wr = w) (fun _ i _ => L.length - (intOf i).toNat)
 case atStart => exact ⟨0, by omega, rfl, rfl, rfl⟩
 case round =>
  obtain ⟨k, hk, rfl, rfl, hwr⟩ := hrel
  have hwr := hwr.symm
  subst hwr
  obtain ⟨n, hn⟩ : ∃ n, n = (L.take k).flatten.length := ⟨_, rfl⟩
  have HN := Lib.hid hn
  have hn2 : n ≤ 1048576 := by rw [hn]; exact HM.out k hk
  rw [← hn]
  clear hn
  by_cases hlt : k < L.length
  ·obtain ⟨ao', cap', e1, hc⟩ := HV.out
   obtain ⟨b, off, u, e2, hcx, hs⟩ := hc k hlt
   obtain ⟨rfl, e1b⟩ : ao = some ⟨b, off, none⟩ ∧ cap = cap' := by cases e1; exact ⟨e2, rfl⟩
   obtain ⟨ao3, cap3, hu, _⟩ := hs.len
   obtain ⟨l, hl2⟩ : ∃ l, L[k] = l := ⟨_, rfl⟩
   rw [hl2] at hu
   subst hu
   have HL := Lib.hid (flatG_len (show L[k]? = some l by rw [List.getElem?_eq_getElem hlt, hl2]))
   rw [← HN.out] at HL
   have hm2 := HM.out (k + 1) (by omega)
   rw [HL.out] at hm2
   clear hc hs e1 e2 e1b hl2
   go_wp2
   go_roundw
   case rel => exact ⟨k + 1, by omega, by go_num, by rw [HL.out]; go_num, by trivial⟩
   case measure => simp [intOf]; omega
  ·have hkl : k = L.length := by omega
   have HNF := Lib.hid (show L.flatten.length = n by have := HN.out; rw [hkl, List.take_length] at this; exact this.symm)
   clear hkl
   go_wp2_with fail
   refine (growA_calls n (by omega) _).mono ?_
   rintro e W1 ⟨vg, rfl, hown, hB⟩
   have HO := Lib.hid hown; have HB := Lib.hid hB; clear hown hB
   go_wp2
   go_loopw [6, 27] (fun a i wq => ∃ (j : Nat) (P : List (Value × Value)), j ≤ L.length ∧ i = .int .i64 (j : Int) ∧ wq.ownsRow w.heap.size 113 2 a (L.take j).flatten.length (flatP P) ∧ PairsOK w (fun b => ok b ∧ b < w.heap.size) P (L.take j).flatten ∧ Below w.heap.size w wq) (fun _ i _ => L.length - (intOf i).toNat)
   case atStart => exact ⟨0, [], by omega, rfl, HO.out, ⟨rfl, fun i p q h => by simp at h⟩, HB.out⟩
   case round =>
    obtain ⟨j, P, hj, rfl, hown, hP, hB⟩ := hrel
    obtain ⟨m, hm⟩ : ∃ m, m = (L.take j).flatten.length := ⟨_, rfl⟩
    have HMJ := Lib.hid hm
    rw [← hm] at hown
    have HOW := Lib.hid hown; have HBW := Lib.hid hB; have HP := Lib.hid hP
    have hsz := hB.size
    clear hm hown hP
    by_cases hlt2 : j < L.length
    ·obtain ⟨ao', cap', e1, hc⟩ := HV.out
     obtain ⟨b, off, u, e2, hcx0, hs⟩ := hc j hlt2
     have hcx := keep_below hB _ _ hcx0
     obtain ⟨rfl, e1b⟩ : ao = some ⟨b, off, none⟩ ∧ cap = cap' := by cases e1; exact ⟨e2, rfl⟩
     obtain ⟨l, hl2⟩ : ∃ l, L[j] = l := ⟨_, rfl⟩
     rw [hl2] at hs
     have hlj : L[j]? = some l := by rw [List.getElem?_eq_getElem hlt2, hl2]
     obtain ⟨ad, cap3, Q, rfl, hQ, hql, hqc, hq1⟩ := hs.cells (HNE.out l (List.mem_of_getElem? hlj))
     have HQ := Lib.hid hQ; have HQL := Lib.hid hql
     have HQC := Lib.hid (show ∀ j u, (flatP Q)[j]? = some u → _ from fun j u hu => keep_below hB _ _ (hqc j u hu))
     have HQ1 := Lib.hid hq1
     have HL := Lib.hid (flatG_len hlj)
     have HFT := Lib.hid (flatG_take hlj)
     rw [← HMJ.out] at HL
     have hm2 := HM.out (j + 1) (by omega)
     rw [HL.out] at hm2
     have HM1 : Hid (m + l.length ≤ maxLen) := Lib.hid (by unfold maxLen; omega)
     have HM2 : Hid ((m + l.length) * 40 ≤ 140737488355328) := Lib.hid (by omega)
     have HSZ := Lib.hid hsz; clear hc hs e1 e2 e1b hl2 hB hlj hcx0 hQ hql hqc hq1
     go_wp2_with (at_builtin; refine wpList_append_blk _ rfl _ _ 72 rfl w.heap.size 113 i0 _ 2 40 Tryz.underlying72 HI0.out.1 HI0.out.2.1 HI0.out.2.2.1 HI0.out.2.2.2 rfl (by decide) _ m (flatP P) rfl HOW.out ad l.length cap3 (flatP Q) rfl HQL.out HQC.out HQ1.out HM1.out HM2.out HSZ.out ?_)
     intro v' w3 hown' hgrow hblk
     have HO3 := Lib.hid hown'
     have HB3 := Lib.hid (HBW.out.grown hgrow HSZ.out (fun j hj => (HOW.out.lt j hj).1))
     clear hown' hgrow hblk
     go_wp2
     go_roundw
     case rel =>
      refine ⟨j + 1, P ++ Q, by omega, by go_num, ?_, ?_, HB3.out⟩
      ·rw [HL.out, flatP_app]; exact HO3.out
      ·rw [HFT.out]; exact HP.out.app HQ.out
     case measure => simp [intOf]; omega
    ·have hkl : j = L.length := by omega
     have HFIN := Lib.hid (show Arrs _ (fun b => (ok b ∧ b < w.heap.size) ∨ w.heap.size ≤ b) _ L.flatten by
      have h := HP.out
      rw [hkl, List.take_length] at h
      exact arrs_owned HOW.out ⟨h.1, fun i p q hp hq => (h.2 i p q hp hq).keep (Kept.below hB) (fun _ _ h => h)⟩)
     clear hkl hB
     go_wp2
     go_ret
     exact ⟨_, rfl, HFIN.out, HBW.out⟩
end Go.Proofs.YtbacchbcanlciaaGreatDoor

namespace Go.Proofs.YtbacchbcanlciaaGreatDoor
set_option maxRecDepth 100000
open Go.RowKit Fl
set_option linter.unusedVariables false

theorem info_slA : (Tryz.prog.info? 72).map (fun i => (i.zero, i.size, i.bytes)) = some (some (.slice none 0 0), 1, 24) := by kernel_rfl
theorem run_mkSA (n : Nat) (hn : n ≤ 2000000) (w : World) : (Instr.makeSlice 214 (.int .i64 (n : Int)) (.int .i64 (n : Int))).run Tryz.prog w = .ok (.slice (some ⟨w.heap.size, 0, none⟩) n n) (w.alloc (.cells (zerosV (.slice none 0 0) n) 72)) := by
 obtain ⟨i0, hi, hz0, hz1, hz2⟩ := info_parts info_slA
 have hr := run_make (P := Tryz.prog) w 214 72 i0 _ Tryz.underlying214 hi hz0 .i64 .i64 n n (by omega) (Int.le_refl _) (by rw [hz2]; omega) (by omega)
 simp only [Int.toNat_natCast, hz1] at hr
 exact hr

set_option maxHeartbeats 4000000 in
theorem joinA_calls {ok : Nat → Prop} (v : Value) (Z : List (Value × VV)) (w : World) (hz : VecsZ w ok v Z) (hm : Z.length ≤ 1000000) (hok : ∀ p ∈ Z, p.2.ok) (hne : ∀ p ∈ Z, 0 < p.2.boxs.length) (hsm : (Z.flatMap fun p => p.2.boxs).length ≤ 1048576) (hT : TabAt w) :
  Calls Tryz.prog 172 #[v, .func (.func 173) #[] #[]] w fun e w' => ∃ z, e = .returned z ∧ Arrs w' (fun b => (ok b ∧ b < w.heap.size) ∨ w.heap.size < b) z (Z.flatMap fun p => p.2.boxs) ∧ Below w.heap.size w w' := by
 have HZ := Lib.hid (hz.keep (Kept.refl _ _) (ok' := fun b => ok b ∧ b < w.heap.size) (fun b h h2 => ⟨h2, h⟩))
 have HOK := Lib.hid hok; have HT := Lib.hid hT; have HSM := Lib.hid hsm; have HNE := Lib.hid hne
 obtain ⟨ao, cap, rfl, _⟩ := hz.1.opened
 have hmk := run_mkSA Z.length (by omega) w
 obtain ⟨W0, hW0⟩ : ∃ W0, W0 = w.alloc (.cells (zerosV (.slice none 0 0) Z.length) 72) := ⟨_, rfl⟩
 have HO0 := Lib.hid (show W0.ownsRow w.heap.size 72 1 (.slice (some ⟨w.heap.size, 0, none⟩) Z.length Z.length) Z.length (List.replicate Z.length (.slice none 0 0)) by rw [hW0]; exact own_make1 _ _ _ (by omega) _ _ (Nat.le_refl _))
 have HW := Lib.hid (show Below w.heap.size w W0 by rw [hW0]; exact below_new _ _)
 clear hz hok hT
 go_enter Tryz.func172, Tryz.ntmps172
 go_wp2_with fail
 rw [← hW0]
 clear hW0 hmk
 go_loopw [13] (fun i wr => ∃ (k : Nat) (xs : List Value), k ≤ Z.length ∧ i = .int .i64 k ∧ xs.length = k ∧ wr.ownsRow w.heap.size 72 1 (.slice (some ⟨w.heap.size, 0, none⟩) Z.length Z.length) Z.length (xs ++ List.replicate (Z.length - k) (.slice none 0 0)) ∧ (∀ (i : Nat) (p : Value × VV) (x : Value), Z[i]? = some p → xs[i]? = some x → Arrs wr (fun b => (ok b ∧ b < w.heap.size) ∨ w.heap.size < b) x p.2.boxs) ∧ W0.grownBy wr (some w.heap.size)) (fun i _ => Z.length - (intOf i).toNat)
 case atStart => exact ⟨0, [], by omega, rfl, rfl, HO0.out, fun i p x _ h => by simp at h, grown_refl _ _⟩
 case round =>
  obtain ⟨k, xs, hk, rfl, hxl, hown, hX, hgr⟩ := hrel
  have HO := Lib.hid hown; have HG := Lib.hid hgr; have HX := Lib.hid hX; have HXL := Lib.hid hxl
  have HB := Lib.hid (HW.out.grown hgr HW.out.size (fun j hj => by cases hj; omega))
  have HGS := Lib.hid (hown.lt w.heap.size rfl).2
  clear hown hgr hX hxl
  by_cases hlt : k < Z.length
  ·obtain ⟨b, off, p, rfl, hp, c0, hv⟩ := HZ.out.at hlt
   have c0 := keep_below HB.out _ _ c0
   have hsv := hv.store
   obtain ⟨pu, pV⟩ := p
   have HP := Lib.hid hp
   have HPK := Lib.hid (HOK.out _ (List.mem_of_getElem? hp))
   have HV := Lib.hid (show IsV (wr.alloc (.cells #[pu] 25)) (fun b => ok b ∧ b < w.heap.size) pu pV from (hv.grow HB.out).grow (below_new _ _))
   have a0 := (At1.new wr pu 25).2.1
   have HT1 := Lib.hid (show TabAt (wr.alloc (.cells #[pu] 25)) from fun j hj => keep_below (HB.out.alloc HB.out.size _) _ _ (HT.out j hj))
   simp only at c0
   clear hp hv
   go_wp2_with fail
   refine (varrays_calls _ pV _ HV.out HPK.out).mono ?_
   rintro e W3 ⟨v3, rfl, hv3, hB3⟩
   have HBr3 := Lib.hid (show Below wr.heap.size wr W3 from (below_new _ _).trans (hB3.mono (by simp)))
   have HV3 := Lib.hid (show Arrs W3 (fun b => (ok b ∧ b < w.heap.size) ∨ w.heap.size < b) v3 pV.boxs from hv3.keep (Kept.refl _ _) (fun b _ h => h.imp id (fun h => by have := HGS.out; simp at h; omega)))
   obtain ⟨vo, vc, rfl, _⟩ := hv3.len
   clear hv3 hB3 a0
   have HO3 := Lib.hid (owns_below2 HO.out HBr3.out)
   have HX3 := Lib.hid (show ∀ (i : Nat) (p : Value × VV) (x : Value), Z[i]? = some p → xs[i]? = some x → Arrs W3 (fun b => (ok b ∧ b < w.heap.size) ∨ w.heap.size < b) x p.2.boxs from fun i p x h1 h2 => (HX.out i p x h1 h2).keep (Kept.below HBr3.out) (fun _ _ h => h))
   have HG3 := Lib.hid (grown_trans HG.out (grown_any (below_grown HBr3.out) _))
   have hcw := owns_cell2 HO3.out k (by simp; have := HXL.out; omega)
   have hfr := World.ownsRow.frozenAt HO3.out k
   go_wp2_with fail
   go_roundw
   case rel =>
    refine ⟨k + 1, xs ++ [.slice vo pV.boxs.length vc], by omega, by go_num, by simp [HXL.out], ?_, ?_, grown_trans HG3.out (grown_setCell _ ⟨w.heap.size, k, none⟩ _)⟩
    ·have := (World.ownsRow.stored HO3.out k (.slice vo pV.boxs.length vc)).1
     rwa [row_set HXL.out hlt] at this
    ·intro i p x hp hx
     have hkk : Kept (fun b => (ok b ∧ b < w.heap.size) ∨ w.heap.size < b) W3 (W3.setCell ⟨w.heap.size, k, none⟩ (.slice vo pV.boxs.length vc)) := Kept.setCell _ _ _ (by simp)
     by_cases e : i < k
     ·rw [List.getElem?_append_left (by rw [HXL.out]; exact e)] at hx
      exact (HX3.out i p x hp hx).keep hkk (fun _ _ h => h)
     ·have e2 : i = k := by have := (List.getElem?_eq_some_iff.1 hx).1; simp [HXL.out] at this; omega
      subst e2
      rw [List.getElem?_append_right (by rw [HXL.out]; exact Nat.le_refl _), HXL.out, Nat.sub_self] at hx
      obtain rfl := Option.some.inj hx
      obtain rfl := Option.some.inj (HP.out.symm.trans hp)
      exact HV3.out.keep hkk (fun _ _ h => h)
   case measure => simp [intOf]; omega
  ·have hkl : k = Z.length := by omega
   subst hkl
   clear hlt
   have HROW := Lib.hid (show RowsA wr (fun b => (ok b ∧ b < w.heap.size) ∨ w.heap.size < b) (.slice (some ⟨w.heap.size, 0, none⟩) Z.length Z.length) (Z.map fun p => p.2.boxs) by
    refine ⟨some ⟨w.heap.size, 0, none⟩, Z.length, by simp, fun i hi => ?_⟩
    have hi : i < Z.length := by simpa using hi
    have hix : i < xs.length := by rw [HXL.out]; exact hi
    refine ⟨w.heap.size, 0, xs[i], rfl, ?_, ?_⟩
    ·have := owns_cell2 HO.out i (by simp; omega)
     rw [Nat.zero_add, this, List.getElem_append_left hix]
    ·have := HX.out i Z[i] xs[i] (List.getElem?_eq_getElem hi) (List.getElem?_eq_getElem hix)
     simpa using this)
   have HFL := Lib.hid (show (Z.map fun p => p.2.boxs).flatten = Z.flatMap fun p => p.2.boxs from (List.flatMap_def).symm)
   go_wp2_with fail
   refine (catA_calls _ _ _ HROW.out (by simp; omega) (fun l hl => by obtain ⟨p, hp, rfl⟩ := List.mem_map.1 hl; exact HNE.out p hp) (by rw [HFL.out]; exact HSM.out)).mono ?_
   rintro e W ⟨z, rfl, hz, hB2⟩
   rw [HFL.out] at hz
   have HB2 := Lib.hid (HB.out.trans (hB2.mono HB.out.size))
   have HZ2 := Lib.hid (show Arrs W (fun b => (ok b ∧ b < w.heap.size) ∨ w.heap.size < b) z (Z.flatMap fun p => p.2.boxs) from hz.keep (Kept.refl _ _) (fun b _ h => by rcases h with h | h; exact h.1; exact Or.inr (by have := HGS.out; omega)))
   obtain ⟨zo, zc, rfl, _⟩ := hz.len
   clear hz hB2
   obtain ⟨ZL, hZL⟩ : ∃ ZL, ZL = (Z.flatMap fun p => p.2.boxs) := ⟨_, rfl⟩
   have HZL := Lib.hid hZL
   rw [← hZL] at HZ2 ⊢
   clear hZL
   go_wp2_with fail
   go_ret
   exact ⟨_, rfl, by rw [← HZL.out]; exact HZ2.out, HB2.out⟩
end Go.Proofs.YtbacchbcanlciaaGreatDoor

namespace Go.Proofs.YtbacchbcanlciaaGreatDoor
set_option maxRecDepth 100000
open Go.RowKit Fl
set_option linter.unusedVariables false

theorem VV.nums_length {V : VV} (h : V.cls = 0) : V.nums.length = V.len := by cases V <;> simp_all [VV.cls, VV.nums, VV.len]
end Go.Proofs.YtbacchbcanlciaaGreatDoor

namespace Go.Proofs.YtbacchbcanlciaaGreatDoor
set_option maxRecDepth 100000
open Go.RowKit Fl
set_option linter.unusedVariables false

def comK : List (Value × VV) → Int
 | [] => 0 | p :: Z => comZ p.2.kind (p :: Z)
noncomputable def joinB (Z : List (Value × VV)) : Bool := if fullZ Z = [] then true else if comK (fullZ Z) = 0 ∨ 1048576 < lensZ (fullZ Z) then false else true
noncomputable def joinZ (Z : List (Value × VV)) : VV :=
 if fullZ Z = [] then noneV (clsZ Z) else if comK (fullZ Z) = 0 ∨ 1048576 < lensZ (fullZ Z) then .none else
 if comK (fullZ Z) = 1 then .bits ((fullZ Z).flatMap fun p => p.2.packed) else if comK (fullZ Z) = 5 then .chars ((fullZ Z).flatMap fun p => p.2.text) else
 if comK (fullZ Z) = 6 then .boxes ((fullZ Z).flatMap fun p => p.2.boxs) else (VV.floats ((fullZ Z).flatMap fun p => p.2.nums)).sq
def JoinIn (Z : List (Value × VV)) : Prop := ∀ p ∈ Z, p.2.ok ∧ p.2.nm ∧ ∀ a ∈ p.2.boxs, a.1.length ≤ 1048576
theorem fullZ_mem {Z : List (Value × VV)} {p : Value × VV} (h : p ∈ fullZ Z) : p ∈ Z ∧ 0 < p.2.len := by
 unfold fullZ at h
 have := List.mem_filter.1 h
 exact ⟨this.1, by simpa using this.2⟩
theorem fullZ_len (Z : List (Value × VV)) : (fullZ Z).length ≤ Z.length := List.length_filter_le _ _
theorem commonK_keep {a b : Int} (h : commonK a b ≠ 0) : a ≠ 0 ∧ ((a = b ∧ commonK a b = a) ∨ ((1 ≤ a ∧ a ≤ 4) ∧ (1 ≤ b ∧ b ≤ 4) ∧ commonK a b = max a b)) := by
 unfold commonK at h ⊢
 by_cases e : a = b
 ·rw [if_pos e] at h ⊢; exact ⟨h, Or.inl ⟨e, rfl⟩⟩
 ·rw [if_neg e] at h ⊢
  by_cases e2 : (1 ≤ a ∧ a ≤ 4) ∧ 1 ≤ b ∧ b ≤ 4
  ·rw [if_pos e2]; exact ⟨by omega, Or.inr ⟨e2.1, e2.2, rfl⟩⟩
  ·rw [if_neg e2] at h; exact absurd rfl h
theorem comZ_all {Z : List (Value × VV)} : ∀ {k0 : Int}, comZ k0 Z ≠ 0 → k0 ≠ 0 ∧ (1 ≤ comZ k0 Z ∧ comZ k0 Z ≤ 4 → (1 ≤ k0 ∧ k0 ≤ comZ k0 Z) ∧ ∀ p ∈ Z, 1 ≤ p.2.kind ∧ p.2.kind ≤ comZ k0 Z) ∧ (¬ (1 ≤ comZ k0 Z ∧ comZ k0 Z ≤ 4) → k0 = comZ k0 Z ∧ ∀ p ∈ Z, p.2.kind = comZ k0 Z) := by
 induction Z with
 | nil => intro k0 h; exact ⟨h, fun h1 => ⟨⟨h1.1, Int.le_refl _⟩, fun p hp => by cases hp⟩, fun _ => ⟨rfl, fun p hp => by cases hp⟩⟩
 | cons q Z ih =>
  intro k0 h
  obtain ⟨r, hr⟩ : ∃ r, r = commonK k0 q.2.kind := ⟨_, rfl⟩
  have e : comZ k0 (q :: Z) = comZ r Z := by rw [hr]; rfl
  rw [e] at h ⊢
  obtain ⟨h1, h2, h3⟩ := ih h
  obtain ⟨h4, h5⟩ := commonK_keep (by rw [← hr]; exact h1)
  rw [← hr] at h5
  refine ⟨h4, fun hr => ?_, fun hr => ?_⟩
  ·obtain ⟨⟨a1, a2⟩, a3⟩ := h2 hr
   rcases h5 with ⟨b1, b2⟩ | ⟨b1, b2, b3⟩
   ·refine ⟨⟨by omega, by omega⟩, fun p hp => ?_⟩
    rcases List.mem_cons.1 hp with rfl | hp
    ·exact ⟨by omega, by omega⟩
    ·exact a3 p hp
   ·refine ⟨⟨b1.1, by omega⟩, fun p hp => ?_⟩
    rcases List.mem_cons.1 hp with rfl | hp
    ·exact ⟨b2.1, by omega⟩
    ·exact a3 p hp
  ·obtain ⟨a1, a2⟩ := h3 hr
   rcases h5 with ⟨b1, b2⟩ | ⟨b1, b2, b3⟩
   ·refine ⟨by omega, fun p hp => ?_⟩
    rcases List.mem_cons.1 hp with rfl | hp
    ·omega
    ·exact a2 p hp
   ·exfalso; apply hr; omega
theorem flat_sum {α : Type} {Z : List (Value × VV)} {f : VV → List α} (h : ∀ p ∈ Z, (f p.2).length = p.2.len) : (Z.flatMap fun p => f p.2).length = lensZ Z := by
 induction Z with
 | nil => rfl
 | cons p Z ih =>
  rw [List.flatMap_cons, List.length_append, h p (List.mem_cons_self ..), ih (fun q hq => h q (List.mem_cons_of_mem _ hq))]
  simp [lensZ]
theorem VV.kind_bit {V : VV} (h : V.kind = 1) : V.isBit = true := by cases V <;> simp_all [VV.kind, VV.isBit]
theorem VV.kind_char {V : VV} (h : V.kind = 5) : V.cls = 1 := by cases V <;> simp_all [VV.kind, VV.cls]
theorem VV.kind_box {V : VV} (h : V.kind = 6) : V.cls = 2 := by cases V <;> simp_all [VV.kind, VV.cls]
theorem VV.kind_num {V : VV} (h : 1 ≤ V.kind ∧ V.kind ≤ 4) : V.cls = 0 := by cases V <;> simp_all [VV.kind, VV.cls]
theorem VV.kind_le (V : VV) : 0 ≤ V.kind ∧ V.kind ≤ 6 := by cases V <;> simp [VV.kind]

set_option maxHeartbeats 8000000 in
theorem fjoin_calls {ok : Nat → Prop} (v : Value) (Z : List (Value × VV)) (w : World) (hz : VecsZ w ok v Z) (hm : Z.length ≤ 1000000) (hin : JoinIn Z) (hT : TabAt w) :
  Calls Tryz.prog 130 #[v] w fun e w' => ∃ u, e = .returned (.tuple #[.agg #[u], .bool (joinB Z)]) ∧ IsV w' (fun b => (ok b ∧ b < w.heap.size) ∨ w.heap.size ≤ b) u (joinZ Z) ∧ Below w.heap.size w w' := by
 obtain ⟨ao, cap, rfl, _⟩ := hz.1.opened
 obtain ⟨W1, hW1⟩ : ∃ W1, W1 = w.alloc (.cells #[.nilIface] 25) := ⟨_, rfl⟩
 have HB := Lib.hid (show Below w.heap.size w W1 by rw [hW1]; exact below_new _ _)
 have HR := Lib.hid (show At1 W1 w.heap.size .nilIface by rw [hW1]; exact At1.new w _ _)
 have HZ := Lib.hid (show VecsZ W1 (fun b => ok b ∧ b < w.heap.size) (.slice ao Z.length cap) Z from hz.keep (Kept.below HB.out) (fun b h h2 => ⟨h2, h⟩))
 have HT := Lib.hid (show TabAt W1 from fun j hj => keep_below HB.out _ _ (hT j hj))
 have HIN := Lib.hid hin
 have HSZ := Lib.hid (show w.heap.size < W1.heap.size from HR.out.1)
 have HW1 := Lib.hid (Below.refl W1.heap.size W1)
 have hfold := hW1.symm
 obtain ⟨F, hF⟩ : ∃ F, F = fullZ Z := ⟨_, rfl⟩
 have HF := Lib.hid hF
 have HFI := Lib.hid (show JoinIn F by rw [hF]; exact fun p hp => hin p (fullZ_mem hp).1)
 have HFM := Lib.hid (show F.length ≤ 1000000 by rw [hF]; exact Nat.le_trans (fullZ_len Z) hm)
 have HFP := Lib.hid (show ∀ p ∈ F, 0 < p.2.len by rw [hF]; exact fun p hp => (fullZ_mem hp).2)
 clear hz hT hin hW1 hF
 go_enter Tryz.func130, Tryz.ntmps130
 go_wp2_with fail
 clear hfold; have HO := HW1.out.size
 refine (withElements_calls _ Z _ HZ.out (by omega)).mono ?_
 rintro e W11 ⟨vf, rfl, hvf, hB⟩
 replace HR := HR.go hB; replace HB := cb hB HB; replace HW1 := cb hB HW1; replace HZ := HZ.go hB; replace HT := HT.go hB
 rw [← HF.out] at hvf
 have HZF := Lib.hid (show VecsZ W11 (fun b => (ok b ∧ b < w.heap.size) ∨ w.heap.size < b) vf F from ⟨hvf.keep (Kept.refl _ _) (fun b _ (h : _ ≤ b) => Or.inr (by have := HSZ.out; omega)), fun p hp => (HZ.out.2 p (by rw [HF.out] at hp; exact (fullZ_mem hp).1)).wide (fun b _ h => Or.inl h)⟩)
 obtain ⟨fo, fc, rfl, _⟩ := hvf.opened
 clear hvf HO; clear hB
 obtain ⟨n, hn⟩ : ∃ n, n = F.length := ⟨_, rfl⟩
 have HN := Lib.hid hn
 rw [← hn] at HZF ⊢
 by_cases hcF : F = []
 ·have HFN := Lib.hid (show fullZ Z = [] by rw [← HF.out]; exact hcF)
  obtain rfl : n = 0 := by rw [hn, hcF]; rfl
  clear hcF hn; have cHR0 := HR.out.2.1
  go_wp2_with fail
  have HJB := Lib.hid (show joinB Z = true from if_pos HFN.out)
  have HJZ := Lib.hid (show joinZ Z = noneV (clsZ Z) from if_pos HFN.out)
  refine (firstClass_calls _ Z _ HZ.out).mono ?_
  rintro e W12 ⟨rfl, hB⟩
  clear cHR0; replace HR := HR.go hB; replace HB := cb hB HB; replace HW1 := cb hB HW1; replace HZ := HZ.go hB; replace HT := HT.go hB; replace HZF := HZF.go hB; clear hB; have cHR0 := HR.out.2.1
  go_wp2_with fail
  have HO := HW1.out.size
  refine (vnone_calls (clsZ Z) _).mono ?_
  rintro e W13 ⟨uq, rfl, huq, hB⟩
  clear cHR0; replace HR := HR.go hB; replace HB := cb hB HB; replace HW1 := cb hB HW1; replace HZ := HZ.go hB; replace HT := HT.go hB; replace HZF := HZF.go hB
  have HQ := Lib.hid (show IsV W13 (fun b => (ok b ∧ b < w.heap.size) ∨ w.heap.size < b) uq (noneV (clsZ Z)) from huq.wide (fun b _ h => by have h : _ ≤ b := h; exact Or.inr (by have := HSZ.out; omega)))
  have hsq := huq.store; clear huq HO; clear hB; have cHR0 := HR.out.2.1; have zHR0 := HR.out.2.2 0
  go_wp2_with fail
  refine bodyPost_ret (v := .tuple #[.agg #[uq], .bool true]) (by simp [results, Tryz.results130, go_sem, cHR0, World.cell?_setCell_same]) rfl ⟨uq, by rw [HJB.out], ?_, HB.out.setCell (Nat.le_refl _) _⟩
  rw [HJZ.out]
  exact (HQ.out.keep (Kept.setCell _ _ _ (by simp)) (fun _ _ h => h)).wide (fun b _ h => h.imp id Nat.le_of_lt)
 obtain ⟨p0, F0, hp0⟩ := List.exists_cons_of_ne_nil hcF
 have HCF := Lib.hid hp0
 have hl0 : ((n : Int) == 0) = false := by rw [beq_eq_false_iff_ne, hn, hp0]; simp; omega
 have HFN := Lib.hid (show ¬ fullZ Z = [] by rw [← HF.out]; exact hcF)
 obtain ⟨kd, hkd⟩ : ∃ kd, kd = comK F := ⟨_, rfl⟩
 have HKD := Lib.hid hkd
 have HJB0 := Lib.hid (show joinB Z = if kd = 0 ∨ 1048576 < lensZ F then false else true by rw [hkd, HF.out]; exact if_neg HFN.out)
 have HJZ0 := Lib.hid (show joinZ Z = if kd = 0 ∨ 1048576 < lensZ F then .none else
  if kd = 1 then .bits (F.flatMap fun p => p.2.packed) else if kd = 5 then .chars (F.flatMap fun p => p.2.text) else
  if kd = 6 then .boxes (F.flatMap fun p => p.2.boxs) else (VV.floats (F.flatMap fun p => p.2.nums)).sq by rw [hkd, HF.out]; exact if_neg HFN.out)
 have HKA := Lib.hid (show kd ≠ 0 → (1 ≤ kd ∧ kd ≤ 4 → ∀ p ∈ F, 1 ≤ p.2.kind ∧ p.2.kind ≤ kd) ∧ (¬ (1 ≤ kd ∧ kd ≤ 4) → ∀ p ∈ F, p.2.kind = kd) by
  have e : kd = comZ p0.2.kind F := by rw [hkd, hp0]; rfl
  intro h
  rw [e] at h ⊢
  exact ⟨fun h1 => ((comZ_all h).2.1 h1).2, fun h1 => ((comZ_all h).2.2 h1).2⟩)
 clear hcF hn hp0 hkd; have cHR0 := HR.out.2.1
 go_wp2_with fail
 refine (commonKind_calls _ p0 F0 _ (show VecsZ _ (fun b => (ok b ∧ b < w.heap.size) ∨ w.heap.size < b) _ (p0 :: F0) by rw [← HCF.out]; exact HZF.out) (by have := HFM.out; rw [HCF.out] at this; omega)).mono ?_
 rintro e W12 ⟨rfl, hB⟩
 clear cHR0; replace HR := HR.go hB; replace HB := cb hB HB; replace HW1 := cb hB HW1; replace HZ := HZ.go hB; replace HT := HT.go hB; replace HZF := HZF.go hB
 rw [show comZ p0.2.kind (p0 :: F0) = kd from by rw [HKD.out, HCF.out]; rfl]
 clear hB
 by_cases hk0 : kd = 0
 ·have HJB := Lib.hid (show joinB Z = false by rw [HJB0.out]; exact if_pos (Or.inl hk0))
  have HJZ := Lib.hid (show joinZ Z = .none by rw [HJZ0.out]; exact if_pos (Or.inl hk0))
  have hke : (kd == 0) = true := by simpa using hk0
  clear hk0; have cHR0 := HR.out.2.1; have zHR0 := HR.out.2.2 0
  go_wp2_with fail
  refine bodyPost_ret (v := .tuple #[.agg #[.nilIface], .bool false]) (by simp [results, Tryz.results130, go_sem, cHR0, World.cell?_setCell_same]) rfl ⟨.nilIface, by rw [HJB.out], ?_, HB.out.setCell (Nat.le_refl _) _⟩
  rw [HJZ.out]
  exact ((IsV.none (ok := fun b => (ok b ∧ b < w.heap.size) ∨ w.heap.size < b)).keep (Kept.setCell _ _ _ (by simp)) (fun _ _ h => h)).wide (fun b _ h => h.imp id Nat.le_of_lt)
 have HK0 := Lib.hid hk0
 have hke : (kd == 0) = false := by simpa using hk0
 clear hk0; have cHR0 := HR.out.2.1
 go_wp2_with fail
 refine (fit_calls _ F _ HZF.out (fun p hp => VV.ok_len (HFI.out p hp).1) (by have := HFM.out; omega)).mono ?_
 rintro e W13 ⟨rfl, hB⟩
 clear cHR0; replace HR := HR.go hB; replace HB := cb hB HB; replace HW1 := cb hB HW1; replace HZ := HZ.go hB; replace HT := HT.go hB; replace HZF := HZF.go hB; clear hB
 by_cases hft : lensZ F ≤ 1048576
 rotate_left
 ·have HJB := Lib.hid (show joinB Z = false by rw [HJB0.out]; exact if_pos (Or.inr (by omega)))
  have HJZ := Lib.hid (show joinZ Z = .none by rw [HJZ0.out]; exact if_pos (Or.inr (by omega)))
  rw [decide_eq_false hft]
  clear hft; have cHR0 := HR.out.2.1; have zHR0 := HR.out.2.2 0
  go_wp2_with fail
  refine bodyPost_ret (v := .tuple #[.agg #[.nilIface], .bool false]) (by simp [results, Tryz.results130, go_sem, cHR0, World.cell?_setCell_same]) rfl ⟨.nilIface, by rw [HJB.out], ?_, HB.out.setCell (Nat.le_refl _) _⟩
  rw [HJZ.out]
  exact ((IsV.none (ok := fun b => (ok b ∧ b < w.heap.size) ∨ w.heap.size < b)).keep (Kept.setCell _ _ _ (by simp)) (fun _ _ h => h)).wide (fun b _ h => h.imp id Nat.le_of_lt)
 have HFT := Lib.hid hft
 have HNB := Lib.hid (show ¬ (kd = 0 ∨ 1048576 < lensZ F) by have := HK0.out; omega)
 have HJB := Lib.hid (show joinB Z = true by rw [HJB0.out]; exact if_neg HNB.out)
 rw [decide_eq_true hft]
 clear hft
 by_cases hk1 : kd = 1
 ·have HKN := Lib.hid hk1
  have hke1 : (kd == 1) = true := by simpa using hk1
  clear hk1
  have HKS := Lib.hid (fun p hp => VV.kind_bit (show VV.kind (p : Value × VV).2 = 1 by have := ((HKA.out HK0.out).1 (by have := HKN.out; omega)) p hp; have := HKN.out; omega) : ∀ p ∈ F, VV.isBit p.2 = true)
  have HSM := Lib.hid (show (F.flatMap fun p => p.2.packed).length ≤ 1048576 by rw [flat_sum (f := VV.packed) (fun p hp => VV.packed_len (HKS.out p hp))]; exact HFT.out)
  obtain ⟨L, hL⟩ : ∃ L, L = F.flatMap fun p => p.2.packed := ⟨_, rfl⟩
  have HLE := Lib.hid hL
  have HLM := Lib.hid (show L.length ≤ 1048576 by rw [hL]; exact HSM.out)
  clear hL
  have HJZ := Lib.hid (show joinZ Z = .bits L by rw [HJZ0.out, if_neg HNB.out, if_pos HKN.out, HLE.out])
  have cHR0 := HR.out.2.1
  go_wp2_with fail
  have HO := HW1.out.size
  refine (joinB_calls _ F _ HZF.out HFM.out (fun p hp => (HFI.out p hp).1) (by have := HSM.out; omega) HT.out).mono ?_
  rintro e W14 ⟨vc, rfl, hvc, hB⟩
  clear cHR0; replace HR := HR.go hB; replace HB := cb hB HB; replace HW1 := cb hB HW1; replace HZ := HZ.go hB; replace HT := HT.go hB; replace HZF := HZF.go hB
  rw [← HLE.out] at hvc
  have HVC := Lib.hid (show Slc W14 (fun b => (ok b ∧ b < w.heap.size) ∨ w.heap.size < b) vc L.length (bools L) from hvc.keep (Kept.refl _ _) (fun b _ (h : _ ≤ b) => Or.inr (by have := HSZ.out; omega)))
  obtain ⟨co, cc, rfl, _⟩ := HVC.out.opened
  clear hvc HO; clear hB; have cHR0 := HR.out.2.1
  go_wp2_with fail
  have HO := HW1.out.size
  refine (pack_fresh _ L _ HVC.out.1.sl HLM.out).mono ?_
  rintro e W15 ⟨vp, rfl, hvp, hB⟩
  clear cHR0; replace HR := HR.go hB; replace HB := cb hB HB; replace HW1 := cb hB HW1; replace HZ := HZ.go hB; replace HT := HT.go hB; replace HZF := HZF.go hB; replace HVC := HVC.go hB
  have HVP := Lib.hid (show IsBitsX W15 (fun b => (ok b ∧ b < w.heap.size) ∨ w.heap.size < b) vp L from hvp.keep (Kept.refl _ _) (fun b _ (h : _ ≤ b) => Or.inr (by have := HSZ.out; omega)))
  clear hvp HO; clear hB; have cHR0 := HR.out.2.1
  go_wp2_with fail
  refine (vbits_ok _ L _ HVP.out HLM.out).mono ?_
  rintro e W16 ⟨uq, rfl, huq, hB⟩
  clear cHR0; replace HR := HR.go hB; replace HB := cb hB HB; replace HW1 := cb hB HW1; replace HZ := HZ.go hB; replace HT := HT.go hB; replace HZF := HZF.go hB; replace HVC := HVC.go hB; replace HVP := HVP.go hB; have HQ := Lib.hid huq; have hsq := huq.store; clear huq; clear hB; have cHR0 := HR.out.2.1; have zHR0 := HR.out.2.2 0
  go_wp2_with fail
  refine bodyPost_ret (v := .tuple #[.agg #[uq], .bool true]) (by simp [results, Tryz.results130, go_sem, cHR0, World.cell?_setCell_same]) rfl ⟨uq, by rw [HJB.out], ?_, HB.out.setCell (Nat.le_refl _) _⟩
  rw [HJZ.out]
  exact (HQ.out.keep (Kept.setCell _ _ _ (by simp)) (fun _ _ h => h)).wide (fun b _ h => h.imp id Nat.le_of_lt)
 have HK1 := Lib.hid hk1
 have hke1 : (kd == 1) = false := by simpa using hk1
 clear hk1
 by_cases hk5 : kd = 5
 ·have HKN := Lib.hid hk5
  have hke5 : (kd == 5) = true := by simpa using hk5
  clear hk5
  have HKS := Lib.hid (fun p hp => VV.kind_char (show VV.kind (p : Value × VV).2 = 5 by have := ((HKA.out HK0.out).2 (by have := HKN.out; omega)) p hp; have := HKN.out; omega) : ∀ p ∈ F, VV.cls p.2 = 1)
  have HSM := Lib.hid (show (F.flatMap fun p => p.2.text).length ≤ 1048576 by rw [flat_sum (f := VV.text) (fun p hp => VV.text_len (HKS.out p hp))]; exact HFT.out)
  obtain ⟨L, hL⟩ : ∃ L, L = F.flatMap fun p => p.2.text := ⟨_, rfl⟩
  have HLE := Lib.hid hL
  have HLM := Lib.hid (show L.length ≤ 1048576 by rw [hL]; exact HSM.out)
  clear hL
  have HJZ := Lib.hid (show joinZ Z = .chars L by rw [HJZ0.out, if_neg HNB.out, if_neg HK1.out, if_pos HKN.out, HLE.out])
  have cHR0 := HR.out.2.1
  go_wp2_with fail
  have HO := HW1.out.size
  refine (joinC_calls _ F _ HZF.out HFM.out (fun p hp => (HFI.out p hp).1) (by have := HSM.out; omega) HT.out).mono ?_
  rintro e W14 ⟨vc, rfl, hvc, hB⟩
  clear cHR0; replace HR := HR.go hB; replace HB := cb hB HB; replace HW1 := cb hB HW1; replace HZ := HZ.go hB; replace HT := HT.go hB; replace HZF := HZF.go hB
  rw [← HLE.out] at hvc
  have HVC := Lib.hid (show Slc W14 (fun b => (ok b ∧ b < w.heap.size) ∨ w.heap.size < b) vc L.length (i32s L) from hvc.keep (Kept.refl _ _) (fun b _ (h : _ ≤ b) => Or.inr (by have := HSZ.out; omega)))
  obtain ⟨co, cc, rfl, _⟩ := HVC.out.opened
  clear hvc HO; clear hB; have cHR0 := HR.out.2.1
  go_wp2_with fail
  have HO := HW1.out.size
  refine (vchars_calls _ L _ HVC.out (by have := HLM.out; omega)).mono ?_
  rintro e W15 ⟨uq, rfl, huq, hB⟩
  clear cHR0; replace HR := HR.go hB; replace HB := cb hB HB; replace HW1 := cb hB HW1; replace HZ := HZ.go hB; replace HT := HT.go hB; replace HZF := HZF.go hB; replace HVC := HVC.go hB
  have HQ := Lib.hid (show IsV W15 (fun b => (ok b ∧ b < w.heap.size) ∨ w.heap.size < b) uq (.chars L) from huq.wide (fun b _ h => by have h : _ ≤ b := h; exact Or.inr (by have := HSZ.out; omega)))
  have hsq := huq.store; clear huq HO; clear hB; have cHR0 := HR.out.2.1; have zHR0 := HR.out.2.2 0
  go_wp2_with fail
  refine bodyPost_ret (v := .tuple #[.agg #[uq], .bool true]) (by simp [results, Tryz.results130, go_sem, cHR0, World.cell?_setCell_same]) rfl ⟨uq, by rw [HJB.out], ?_, HB.out.setCell (Nat.le_refl _) _⟩
  rw [HJZ.out]
  exact (HQ.out.keep (Kept.setCell _ _ _ (by simp)) (fun _ _ h => h)).wide (fun b _ h => h.imp id Nat.le_of_lt)
 have HK5 := Lib.hid hk5
 have hke5 : (kd == 5) = false := by simpa using hk5
 clear hk5
 by_cases hk6 : kd = 6
 ·have HKN := Lib.hid hk6
  have hke6 : (kd == 6) = true := by simpa using hk6
  clear hk6
  have HKS := Lib.hid (fun p hp => VV.kind_box (show VV.kind (p : Value × VV).2 = 6 by have := ((HKA.out HK0.out).2 (by have := HKN.out; omega)) p hp; have := HKN.out; omega) : ∀ p ∈ F, VV.cls p.2 = 2)
  have HSM := Lib.hid (show (F.flatMap fun p => p.2.boxs).length ≤ 1048576 by rw [flat_sum (f := VV.boxs) (fun p hp => VV.boxs_len (HKS.out p hp))]; exact HFT.out)
  obtain ⟨L, hL⟩ : ∃ L, L = F.flatMap fun p => p.2.boxs := ⟨_, rfl⟩
  have HLE := Lib.hid hL
  have HLM := Lib.hid (show L.length ≤ 1048576 by rw [hL]; exact HSM.out)
  clear hL
  have HJZ := Lib.hid (show joinZ Z = .boxes L by rw [HJZ0.out, if_neg HNB.out, if_neg HK1.out, if_neg HK5.out, if_pos HKN.out, HLE.out])
  have cHR0 := HR.out.2.1
  go_wp2_with fail
  have HO := HW1.out.size
  refine (joinA_calls _ F _ HZF.out HFM.out (fun p hp => (HFI.out p hp).1) (fun p hp => by rw [VV.boxs_len (HKS.out p hp)]; exact HFP.out p hp) HSM.out HT.out).mono ?_
  rintro e W14 ⟨vc, rfl, hvc, hB⟩
  clear cHR0; replace HR := HR.go hB; replace HB := cb hB HB; replace HW1 := cb hB HW1; replace HZ := HZ.go hB; replace HT := HT.go hB; replace HZF := HZF.go hB
  rw [← HLE.out] at hvc
  have HVC := Lib.hid (show Arrs W14 (fun b => (ok b ∧ b < w.heap.size) ∨ w.heap.size < b) vc L from hvc.keep (Kept.refl _ _) (fun b _ h => by rcases h with h | h; exact h.1; exact Or.inr (by have := HSZ.out; omega)))
  obtain ⟨co, cc, rfl, _⟩ := HVC.out.len
  clear hvc HO; clear hB; have cHR0 := HR.out.2.1
  go_wp2_with fail
  have HO := HW1.out.size
  refine (vboxes_calls _ L _ HVC.out HLM.out (fun a ha => by rw [HLE.out] at ha; obtain ⟨p, hp, hap⟩ := List.mem_flatMap.1 ha; exact (HFI.out p hp).2.2 a hap)).mono ?_
  rintro e W15 ⟨uq, rfl, huq, hB⟩
  clear cHR0; replace HR := HR.go hB; replace HB := cb hB HB; replace HW1 := cb hB HW1; replace HZ := HZ.go hB; replace HT := HT.go hB; replace HZF := HZF.go hB; replace HVC := HVC.go hB
  have HQ := Lib.hid (show IsV W15 (fun b => (ok b ∧ b < w.heap.size) ∨ w.heap.size < b) uq (.boxes L) from huq.wide (fun b _ h => by rcases h with h | h; exact h.1; exact Or.inr (by have := HSZ.out; omega)))
  have hsq := huq.store; clear huq HO; clear hB; have cHR0 := HR.out.2.1; have zHR0 := HR.out.2.2 0
  go_wp2_with fail
  refine bodyPost_ret (v := .tuple #[.agg #[uq], .bool true]) (by simp [results, Tryz.results130, go_sem, cHR0, World.cell?_setCell_same]) rfl ⟨uq, by rw [HJB.out], ?_, HB.out.setCell (Nat.le_refl _) _⟩
  rw [HJZ.out]
  exact (HQ.out.keep (Kept.setCell _ _ _ (by simp)) (fun _ _ h => h)).wide (fun b _ h => h.imp id Nat.le_of_lt)
 have HK6 := Lib.hid hk6
 have hke6 : (kd == 6) = false := by simpa using hk6
 clear hk6
 have HKS := Lib.hid (fun p hp => VV.kind_num (show 1 ≤ VV.kind (p : Value × VV).2 ∧ VV.kind p.2 ≤ 4 by
  have h0 := HK0.out
  by_cases hr : 1 ≤ kd ∧ kd ≤ 4
  ·have := ((HKA.out h0).1 hr) p hp; omega
  ·have := ((HKA.out h0).2 hr) p hp; have := VV.kind_le p.2; have := HK5.out; have := HK6.out; omega) : ∀ p ∈ F, VV.cls p.2 = 0)
 have HSM := Lib.hid (show (F.flatMap fun p => p.2.nums).length ≤ 1048576 by rw [flat_sum (f := VV.nums) (fun p hp => VV.nums_length (HKS.out p hp))]; exact HFT.out)
 obtain ⟨L, hL⟩ : ∃ L, L = F.flatMap fun p => p.2.nums := ⟨_, rfl⟩
 have HLE := Lib.hid hL
 have HLM := Lib.hid (show L.length ≤ 1048576 by rw [hL]; exact HSM.out)
 clear hL
 have HJZ := Lib.hid (show joinZ Z = (VV.floats L).sq by rw [HJZ0.out, if_neg HNB.out, if_neg HK1.out, if_neg HK5.out, if_neg HK6.out, HLE.out])
 have HLU := Lib.hid (show ∀ x ∈ L, Num x by rw [HLE.out]; intro x hx; obtain ⟨p, hp, hxp⟩ := List.mem_flatMap.1 hx; exact VV.nums_num (HFI.out p hp).1 (HFI.out p hp).2.1 x hxp)
 have cHR0 := HR.out.2.1
 go_wp2_with fail
 have HO := HW1.out.size
 refine (joinF_calls _ F _ HZF.out HFM.out (fun p hp => (HFI.out p hp).1) (by have := HSM.out; omega) HT.out).mono ?_
 rintro e W14 ⟨vc, rfl, hvc, hB⟩
 clear cHR0; replace HR := HR.go hB; replace HB := cb hB HB; replace HW1 := cb hB HW1; replace HZ := HZ.go hB; replace HT := HT.go hB; replace HZF := HZF.go hB
 rw [← HLE.out] at hvc
 have HVC := Lib.hid (show Slc W14 (fun b => (ok b ∧ b < w.heap.size) ∨ w.heap.size < b) vc L.length (f64s L) from hvc.keep (Kept.refl _ _) (fun b _ (h : _ ≤ b) => Or.inr (by have := HSZ.out; omega)))
 obtain ⟨co, cc, rfl, _⟩ := HVC.out.opened
 clear hvc HO; clear hB; have cHR0 := HR.out.2.1
 go_wp2_with fail
 have HO := HW1.out.size
 refine (fnumbers_calls _ L _ HVC.out HLM.out (fun x hx => (HLU.out x hx).1) HT.out).mono ?_
 rintro e W15 ⟨uq, rfl, huq, hB⟩
 clear cHR0; replace HR := HR.go hB; replace HB := cb hB HB; replace HW1 := cb hB HW1; replace HZ := HZ.go hB; replace HT := HT.go hB; replace HZF := HZF.go hB; replace HVC := HVC.go hB
 rw [map_ze HLU.out] at huq
 have HQ := Lib.hid (show IsV W15 (fun b => (ok b ∧ b < w.heap.size) ∨ w.heap.size < b) uq (VV.floats L).sq from huq.wide (fun b _ h => by have h : _ ≤ b := h; exact Or.inr (by have := HSZ.out; omega)))
 have hsq := huq.store; clear huq HO; clear hB; have cHR0 := HR.out.2.1; have zHR0 := HR.out.2.2 0
 go_wp2_with fail
 refine bodyPost_ret (v := .tuple #[.agg #[uq], .bool true]) (by simp [results, Tryz.results130, go_sem, cHR0, World.cell?_setCell_same]) rfl ⟨uq, by rw [HJB.out], ?_, HB.out.setCell (Nat.le_refl _) _⟩
 rw [HJZ.out]
 exact (HQ.out.keep (Kept.setCell _ _ _ (by simp)) (fun _ _ h => h)).wide (fun b _ h => h.imp id Nat.le_of_lt)
end Go.Proofs.YtbacchbcanlciaaGreatDoor

namespace Go.Proofs.YtbacchbcanlciaaGreatDoor
set_option maxRecDepth 100000
open Go.RowKit Fl
set_option linter.unusedVariables false

end Go.Proofs.YtbacchbcanlciaaGreatDoor

namespace Go.Proofs.YtbacchbcanlciaaGreatDoor
set_option maxRecDepth 100000
open Go.RowKit Fl
set_option linter.unusedVariables false

end Go.Proofs.YtbacchbcanlciaaGreatDoor

namespace Go.Proofs.YtbacchbcanlciaaGreatDoor
set_option maxRecDepth 100000
open Go.RowKit Fl
set_option linter.unusedVariables false

end Go.Proofs.YtbacchbcanlciaaGreatDoor

namespace Go.Proofs.YtbacchbcanlciaaGreatDoor
set_option maxRecDepth 100000
open Go.RowKit Fl
set_option linter.unusedVariables false

def kc (k c : Int) : Prop := (c = 0 ∧ 1 ≤ k ∧ k ≤ 4) ∨ (c = 1 ∧ k = 5) ∨ (c = 2 ∧ k = 6)
theorem flatMap_full {β : Type} {Z : List (Value × VV)} {f : VV → List β} (h : ∀ p ∈ Z, p.2.len = 0 → f p.2 = []) : (Z.flatMap fun p => f p.2) = (fullZ Z).flatMap fun p => f p.2 := by
 induction Z with
 | nil => rfl
 | cons p Z ih =>
  have ih := ih (fun q hq => h q (List.mem_cons_of_mem _ hq))
  rw [List.flatMap_cons, ih]
  by_cases h0 : 0 < p.2.len
  ·have : fullZ (p :: Z) = p :: fullZ Z := by simp [fullZ, h0]
   rw [this, List.flatMap_cons]
  ·have : fullZ (p :: Z) = fullZ Z := by simp [fullZ, h0]
   rw [this, h p (List.mem_cons_self ..) (by omega)]; rfl
end Go.Proofs.YtbacchbcanlciaaGreatDoor
