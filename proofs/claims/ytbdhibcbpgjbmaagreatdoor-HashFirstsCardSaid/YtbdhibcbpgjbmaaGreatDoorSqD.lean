/- Package squeeze, walked: Into, Squeeze, Numbers. -/
import Derived.Test.YtbdhibcbpgjbmaaGreatDoorSqC
import Derived.Test.YtbdhibcbpgjbmaaGreatDoorVeE
import Derived.Test.YtbdhibcbpgjbmaaGreatDoorVeH
import Derived.Test.YtbdhibcbpgjbmaaGreatDoorVeX
namespace Go.Proofs.YtbdhibcbpgjbmaaGreatDoor
open Go.RowKit Fl
set_option linter.unusedVariables false
set_option maxRecDepth 100000

/-- Does it fit a kind? -/
noncomputable def VV.fit (V : VV) (k : Int) : Bool := decide (V.kind = k) || (decide (V.cls = 0) && decide (1 ≤ k ∧ k ≤ 4) && decide ((V.least : Int) ≤ k))
/-- .. brought there. -/
noncomputable def VV.into (V : VV) (k : Int) : VV :=
 if V.kind = k then V else if V.fit k = false then .none else if k = 1 then .bits (V.nums.map bitW) else if k = 2 then .smalls (V.nums.map wnOf) else if k = 3 then .ints (V.nums.map wnOf) else .floats V.nums
theorem ze_same {x : Nat} (h : Num x) : ze x = x := by
 unfold ze
 split
 ·rename_i hv; exact (h.2 hv).symm
 ·rfl
theorem map_ze {l : List Nat} (h : ∀ x ∈ l, Num x) : l.map ze = l := by
 conv => rhs; rw [← List.map_id l]
 exact List.map_congr_left (fun x hx => ze_same (h x hx))
theorem map_back {α β : Type} {f : β → α} {g : α → β} {l : List α} (h : ∀ x ∈ l, f (g x) = x) : (l.map g).map f = l := by
 rw [List.map_map]
 conv => rhs; rw [← List.map_id l]
 exact List.map_congr_left (fun x hx => h x hx)
theorem flag_bit {x : Nat} (h : Num x) (h1 : kindW x = 1) : flagW (bitW x) = x := by
 unfold flagW bitW
 rcases kind_one' h h1 with hv | hv
 ·have hp := pw_pos 1074
  rw [if_neg (by rw [decide_eq_true_eq]; omega)]
  exact (h.2 (V_eq_zero.1 hv)).symm
 ·rw [if_pos (decide_eq_true hv)]
  exact V_inj num_one h (V_one.trans hv.symm)
theorem VV.fit_own (V : VV) : V.fit V.kind = true := by simp [VV.fit]
theorem VV.into_own (V : VV) : V.into V.kind = V := by simp [VV.into]
theorem VV.into_no {V : VV} {k : Int} (h : V.fit k = false) : V.into k = .none := by
 unfold VV.into
 rw [if_neg (fun e => by rw [← e, VV.fit_own] at h; cases h), if_pos h]
theorem VV.least_le {V : VV} {k : Int} (h0 : V.kind ≠ k) (h : V.fit k = true) : V.cls = 0 ∧ (1 ≤ k ∧ k ≤ 4) ∧ (V.least : Int) ≤ k := by
 simp only [VV.fit, Bool.or_eq_true, Bool.and_eq_true, decide_eq_true_eq] at h
 rcases h with h | ⟨⟨h1, h2⟩, h3⟩
 ·exact absurd h h0
 ·exact ⟨h1, h2, h3⟩
theorem VV.leastW_le {V : VV} (hok : V.ok) (hn : V.nm) (h : V.cls = 0) : leastW V.nums ≤ V.least := by
 cases V with
 | bits l =>
  refine leastW_all (Nat.le_refl _) (fun x hx => ?_)
  simp only [VV.nums, List.mem_map] at hx
  obtain ⟨b, _, rfl⟩ := hx
  cases b
  ·have : kindW 0 = 1 := kind_one num_zero (.inl V_zero)
   exact Nat.le_of_eq this
  ·have : kindW 4607182418800017408 = 1 := kind_one num_one (.inr V_one)
   exact Nat.le_of_eq this
 | chars l => simp [VV.cls] at h
 | boxes l => simp [VV.cls] at h
 | none => exact Nat.le_refl _
 | smalls l => exact Nat.le_refl _
 | ints l => exact Nat.le_refl _
 | floats l => exact Nat.le_refl _
/-- What is brought into a kind that it fits keeps its numbers. -/
theorem VV.into_spec {V : VV} {k : Int} (hok : V.ok) (hn : V.nm) (h : V.fit k = true) : (V.into k).kind = k ∧ (V.into k).nums = V.nums ∧ (V.into k).cls = V.cls ∧ (V.into k).ok ∧ (V.into k).nm ∧ (V.into k).len = V.len := by
 by_cases h0 : V.kind = k
 ·subst h0; rw [VV.into_own]; exact ⟨rfl, rfl, rfl, hok, hn, rfl⟩
 ·obtain ⟨h1, h2, h3⟩ := VV.least_le h0 h
  have hN := VV.nums_num hok hn
  have hL := VV.leastW_le hok hn h1
  have hlen := VV.ok_len hok
  have hnl : V.nums.length = V.len := by cases V <;> simp [VV.nums, VV.len, VV.cls] at h1 ⊢
  have hnl2 : V.nums.length ≤ 1048576 := by omega
  unfold VV.into
  rw [if_neg h0, if_neg (by rw [h]; decide)]
  by_cases k1 : k = 1
  ·subst k1
   rw [if_pos rfl]
   have hk : ∀ x ∈ V.nums, kindW x = 1 := fun x hx => by have := leastW_mem hx; have := kindW_le x; omega
   refine ⟨rfl, ?_, h1.symm, by simpa [VV.ok] using hnl2, trivial, by simpa [VV.len] using hnl⟩
   exact map_back (fun x hx => flag_bit (hN x hx) (hk x hx))
  ·rw [if_neg k1]
   by_cases k4 : k = 4
   ·subst k4
    rw [if_neg (by decide), if_neg (by decide)]
    exact ⟨rfl, rfl, h1.symm, hnl2, hN, hnl⟩
   ·obtain ⟨w1, w2⟩ := whole_list hN (by omega)
    by_cases k2 : k = 2
    ·subst k2
     rw [if_pos rfl]
     refine ⟨rfl, w1.symm, h1.symm, ⟨by simpa using hnl2, fun z hz => ?_⟩, trivial, by simpa [VV.len] using hnl⟩
     have := (w2 z hz).2
     unfold kindZ at this
     split at this
     ·omega
     ·split at this
      ·assumption
      ·omega
    ·rw [if_neg k2, if_pos (by omega)]
     refine ⟨by show (3 : Int) = k; omega, w1.symm, h1.symm, by simpa [VV.ok] using hnl2, fun z hz => ?_, by simpa [VV.len] using hnl⟩
     have := (w2 z hz).1
     exact sm_yes (by omega) (by omega)
theorem VV.into_ok {V : VV} {k : Int} (hok : V.ok) (hn : V.nm) : (V.into k).ok ∧ (V.into k).nm := by
 by_cases h : V.fit k = true
 ·have := VV.into_spec hok hn h; exact ⟨this.2.2.2.1, this.2.2.2.2.1⟩
 ·rw [VV.into_no (by simpa using h)]; exact ⟨trivial, trivial⟩
theorem Slx.setn {w : World} {ok : Nat → Prop} {s : Value} {n : Nat} {xs : List Value} (h : Slx w ok s n xs) {p : Addr} {u : Value} (hp : w.cell? p = some u) (hu : ∀ y ∈ xs, y ≠ u) (x : Value) : Slx (w.setCell p x) ok s n xs := by
 obtain ⟨hl, ao, cap, rfl, hc⟩ := h
 refine ⟨hl, ao, cap, rfl, fun i hi => ?_⟩
 obtain ⟨b, off, e, hb, hcell⟩ := hc i hi
 refine ⟨b, off, e, hb, ?_⟩
 rw [World.cell?_setCell_other _ _ _ _ (fun ep => ?_)]
 ·exact hcell
 ·rw [← ep] at hcell
  exact hu _ (List.getElem_mem hi) (Option.some.inj (hcell.symm.trans hp))
/-- A cell that holds no interface is none of a vector's, but of boxes. -/
theorem IsV.setn {w : World} {ok : Nat → Prop} {u : Value} {V : VV} (h : IsV w ok u V) (hV : V.kind ≠ 6) {p : Addr} (hp : w.cell? p = some .nilIface) (x : Value) : IsV (w.setCell p x) ok u V := by
 cases h with
 | none => exact .none
 | bits h hm => exact .bits (h.setn hp (fun y hy => by simp only [u64s, List.mem_map] at hy; obtain ⟨z, _, rfl⟩ := hy; intro e; cases e) x) hm
 | smalls h => exact .smalls ⟨h.1.setn hp (fun y hy => by simp only [i8s, List.mem_map] at hy; obtain ⟨z, _, rfl⟩ := hy; intro e; cases e) x, h.2⟩
 | ints h => exact .ints ⟨h.1.setn hp (fun y hy => by simp only [Go.Proofs.YtbdhibcbpgjbmaaGreatDoor.ints, List.mem_map] at hy; obtain ⟨z, _, rfl⟩ := hy; intro e; cases e) x, h.2⟩
 | floats h => exact .floats ⟨h.1.setn hp (fun y hy => by simp only [f64s, List.mem_map] at hy; obtain ⟨z, _, rfl⟩ := hy; intro e; cases e) x, h.2⟩
 | chars h => exact .chars ⟨h.1.setn hp (fun y hy => by simp only [i32s, List.mem_map] at hy; obtain ⟨z, _, rfl⟩ := hy; intro e; cases e) x, h.2⟩
 | boxes f g h1 h2 hc hs hv => exact absurd rfl hV
theorem IsV.setb {w : World} {ok : Nat → Prop} {u : Value} {V : VV} (h : IsV w ok u V) {p : Addr} (hp : ¬ ok p.block) (x : Value) : IsV (w.setCell p x) ok u V := h.keep (Kept.setCell w p x hp) (fun _ _ h => h)
/-- What a vector's cells may lie in. -/
def VV.nb (V : VV) (ok : Nat → Prop) : Nat → Prop := ok
theorem IsV.nbk {w : World} {ok : Nat → Prop} {u : Value} {V : VV} (h : IsV w ok u V) {ok' : Nat → Prop} (hm : ∀ b, b < w.heap.size → ok b → ok' b) : IsV w (V.nb ok') u V := h.wide hm
theorem IsV.nbw {w : World} {ok : Nat → Prop} {u : Value} {V : VV} (h : IsV w (V.nb ok) u V) {ok' : Nat → Prop} (hm : ∀ b, b < w.heap.size → ok b → ok' b) : IsV w (V.nb ok') u V := h.wide hm
theorem IsV.setv {w : World} {ok : Nat → Prop} {u : Value} {V : VV} (h : IsV w (V.nb ok) u V) {p : Addr} (hp : w.cell? p = some .nilIface) (ho : ¬ ok p.block) (x : Value) : IsV (w.setCell p x) (V.nb ok) u V := h.setb ho x
theorem leastW_i8 {l : List Nat} (h : leastW l ≤ 2) : ∀ x ∈ l, ∃ n, Wh x n ∧ -128 ≤ n ∧ n ≤ 127 := by
 intro x hx
 have := leastW_mem hx
 obtain ⟨n, hn, e⟩ := kindW_lt (x := x) (by omega)
 refine ⟨n, hn, ?_⟩
 unfold kindZ at e
 split at e
 ·omega
 ·split at e
  ·assumption
  ·omega
theorem leastW_wh {l : List Nat} (h : leastW l ≤ 3) : ∀ x ∈ l, ∃ n, Wh x n := by
 intro x hx
 have := leastW_mem hx
 obtain ⟨n, hn, e⟩ := kindW_lt (x := x) (by omega)
 exact ⟨n, hn⟩

set_option maxHeartbeats 4000000 in
theorem sinto_calls {ok : Nat → Prop} (u : Value) (V : VV) (k : Int) (w : World) (h : IsV w (V.nb ok) u V) (hok : V.ok) (hn : V.nm) (hT : TabAt w) :
  Calls Tryz.prog 23 #[.agg #[u], .int .i64 k] w fun e w' => ∃ u', e = .returned (.tuple #[.agg #[u'], .bool (V.fit k)]) ∧ IsV w' ((V.into k).nb (fun b => ok b ∨ w.heap.size ≤ b)) u' (V.into k) ∧ Below w.heap.size w w' := by
 have H := Lib.hid h.lt; have HOK := Lib.hid hok; have HN := Lib.hid hn
 have HNU := Lib.hid (VV.nums_num hok hn)
 have HT := Lib.hid hT
 have HB := Lib.hid (Below.refl w.heap.size w)
 have hst := h.store; clear h hok hn hT
 obtain ⟨K, hK⟩ : ∃ K, V.kind = K := ⟨_, rfl⟩
 have HK := Lib.hid hK
 by_cases h0 : V.kind = k
 ·have HF := Lib.hid (show V.fit k = true by rw [← h0]; exact VV.fit_own V)
  have HI := Lib.hid (show V.into k = V by rw [← h0]; exact VV.into_own V)
  rw [HF.out, HI.out]
  have hb : (K == k) = true := by rw [← hK, h0]; simp
  have HE := Lib.hid (show V.kind = K from hK)
  clear h0 hK
  obtain ⟨W1, hWn⟩ : ∃ W1, ((w.alloc (.cells #[u] 36)).alloc (.cells #[.nilIface] 36)) = W1 := ⟨_, rfl⟩
  have hB : Below w.heap.size w W1 := by rw [← hWn]; exact ((below_new _ _).alloc (by simp <;> omega) _)
  replace H := H.go hB; replace HT := HT.go hB; replace HB := cb hB HB
  have HA := Lib.hid (show At1 W1 w.heap.size (u) by rw [← hWn]; exact (At1.new w (u) 36).below (below_new _ _))
  have HR := Lib.hid (show At1 W1 (w.heap.size + 1) (.nilIface) by rw [← hWn]; have := At1.new (w.alloc (.cells #[u] 36)) (.nilIface) 36; simpa using this)
  clear hB; have cHA := HA.out.2.1; have cHR := HR.out.2.1
  go_enter Tryz.func23, Tryz.ntmps23
  go_wp2_with fail
  clear hWn
  refine (kind_calls _ _ _ H.out).mono ?_
  clear cHA cHR
  rintro e W2 ⟨rfl, hB⟩
  replace H := H.go hB; replace HT := HT.go hB; replace HA := HA.go hB; replace HR := HR.go hB; replace HB := cb hB HB; rw [HK.out]; clear hB; have cHA := HA.out.2.1; have cHR := HR.out.2.1; have fHR := HR.out.2.2 0
  go_wp2
  refine bodyPost_ret (v := .tuple #[.agg #[u], .bool true]) (by simp [results, Tryz.results23, go_sem, cHR]) rfl ⟨_, rfl, (H.out.setb (fun h => absurd h.2 (by show ¬ (_ + 1 < _); omega)) _).wide (fun b _ h => .inl h.1), below_set1 _ HB.out (by omega)⟩
 ·have hb : (K == k) = false := by rw [← hK]; simpa using h0
  obtain ⟨C, hC⟩ : ∃ C, V.cls = C := ⟨_, rfl⟩
  have HC := Lib.hid hC
  by_cases hc : V.cls = 0
  ·by_cases hnm : 1 ≤ k ∧ k ≤ 4
   ·obtain ⟨L, hL⟩ : ∃ L : Int, (V.least : Int) = L := ⟨_, rfl⟩
    have HL := Lib.hid hL
    have HD := Lib.hid (decide_eq_true hnm)
    by_cases hle : (V.least : Int) ≤ k
    ·have HF := Lib.hid (show V.fit k = true by unfold VV.fit; rw [decide_eq_true hc, decide_eq_true hnm, decide_eq_true hle]; simp)
     have hnl : V.nums.length ≤ 1048576 := Nat.le_trans VV.nums_lenle (VV.ok_len HOK.out)
     have HNL := Lib.hid hnl
     have HLW := Lib.hid (VV.leastW_le HOK.out HN.out hc)
     rw [HF.out]
     have HE := Lib.hid (show V.into k = if k = 1 then .bits (V.nums.map bitW) else if k = 2 then .smalls (V.nums.map wnOf) else if k = 3 then .ints (V.nums.map wnOf) else .floats V.nums by unfold VV.into; rw [if_neg h0, if_neg (by rw [HF.out]; decide)])
     have hcC : (C != 0) = false := by rw [← hC, hc]; rfl
     have hLk : ¬ k < L := by omega
     rw [HE.out]; have HNM := Lib.hid hnm
     obtain ⟨l, hl⟩ : ∃ l, V.nums = l := ⟨_, rfl⟩
     rw [hl] at HNU HNL HLW HE ⊢
     have HV := Lib.hid hl; clear h0 hc hK hC hL hl hle hnl
     have hk4 : k = 1 ∨ k = 2 ∨ k = 3 ∨ k = 4 := by omega
     clear hnm
     rcases hk4 with rfl | rfl | rfl | rfl
     ·obtain ⟨W1, hWn⟩ : ∃ W1, ((w.alloc (.cells #[u] 36)).alloc (.cells #[.nilIface] 36)) = W1 := ⟨_, rfl⟩
      have hB : Below w.heap.size w W1 := by rw [← hWn]; exact ((below_new _ _).alloc (by simp <;> omega) _)
      replace H := H.go hB; replace HT := HT.go hB; replace HB := cb hB HB
      have HA := Lib.hid (show At1 W1 w.heap.size (u) by rw [← hWn]; exact (At1.new w (u) 36).below (below_new _ _))
      have HR := Lib.hid (show At1 W1 (w.heap.size + 1) (.nilIface) by rw [← hWn]; have := At1.new (w.alloc (.cells #[u] 36)) (.nilIface) 36; simpa using this)
      clear hB; have cHA := HA.out.2.1; have cHR := HR.out.2.1
      go_enter Tryz.func23, Tryz.ntmps23
      go_wp2_with fail
      clear hWn
      refine (kind_calls _ _ _ H.out).mono ?_
      clear cHA cHR
      rintro e W2 ⟨rfl, hB⟩
      replace H := H.go hB; replace HT := HT.go hB; replace HA := HA.go hB; replace HR := HR.go hB; replace HB := cb hB HB; rw [HK.out]; clear hB; have cHA := HA.out.2.1; have cHR := HR.out.2.1
      go_wp2_with fail
      refine (class_calls _ _ _ H.out).mono ?_
      clear cHA cHR
      rintro e W3 ⟨rfl, hB⟩
      replace H := H.go hB; replace HT := HT.go hB; replace HA := HA.go hB; replace HR := HR.go hB; replace HB := cb hB HB; rw [HC.out]; clear hB; have cHA := HA.out.2.1; have cHR := HR.out.2.1
      go_wp2_with fail
      refine (Calls.grow_same (numeric_calls _ _)).mono ?_
      clear cHA cHR
      rintro e W4 ⟨rfl, hB⟩
      replace H := H.go hB; replace HT := HT.go hB; replace HA := HA.go hB; replace HR := HR.go hB; replace HB := cb hB HB; rw [HD.out]; clear hB; have cHA := HA.out.2.1; have cHR := HR.out.2.1
      go_wp2_with fail
      refine (least_calls _ _ _ H.out HOK.out HN.out HT.out).mono ?_
      clear cHA cHR
      rintro e W5 ⟨rfl, hB⟩
      replace H := H.go hB; replace HT := HT.go hB; replace HA := HA.go hB; replace HR := HR.go hB; replace HB := cb hB HB; rw [HL.out]; clear hB; have cHA := HA.out.2.1; have cHR := HR.out.2.1
      go_wp2_with fail
      refine (vnums_calls _ _ _ H.out HOK.out HT.out).mono ?_
      clear cHA cHR
      rintro e W6 ⟨v, rfl, hs, hB⟩
      replace H := H.go hB; replace HT := HT.go hB; replace HA := HA.go hB; replace HR := HR.go hB; replace HB := cb hB HB
      have HS := Lib.hid (show Slc W6 _ v l.length (f64s l) by have := hs.any; rw [HV.out] at this; exact this)
      clear hs; clear hB; have cHA := HA.out.2.1; have cHR := HR.out.2.1
      go_wp2_with fail
      have HK1 := Lib.hid (show ∀ x ∈ l, Num x ∧ kindW x = 1 from fun x hx => ⟨HNU.out x hx, by have h1 := leastW_mem hx; have h2 := kindW_le x; have h3 := HLW.out; have h4 := HL.out; omega⟩)
      have HZ9 := Lib.hid HB.out.size
      refine (packed_fresh _ l _ HS.out HNL.out HK1.out).mono ?_
      clear cHA cHR
      rintro e W7 ⟨b, rfl, hb2, hB⟩
      replace H := H.go hB; replace HT := HT.go hB; replace HA := HA.go hB; replace HR := HR.go hB; replace HS := HS.go hB; replace HB := cb hB HB
      have HBI := Lib.hid (hb2.keep (Kept.refl _ _) (ok' := fun b => w.heap.size ≤ b) (fun b _ h => Nat.le_trans (Nat.le_trans HZ9.out (Nat.le_succ _)) h))
      clear hb2; clear hB; have cHA := HA.out.2.1; have cHR := HR.out.2.1
      go_wp2_with fail
      have HZ9 := Lib.hid HB.out.size
      refine (vbits_ok _ _ _ HBI.out (by rw [List.length_map]; exact HNL.out)).mono ?_
      clear cHA cHR
      rintro e W8 ⟨x, rfl, hu, hB⟩
      replace H := H.go hB; replace HT := HT.go hB; replace HA := HA.go hB; replace HR := HR.go hB; replace HS := HS.go hB; replace HBI := HBI.go hB; replace HB := cb hB HB; have hsx := hu.store; have HX := Lib.hid hu; clear hu; clear hB; have cHA := HA.out.2.1; have cHR := HR.out.2.1; have fHR := HR.out.2.2 0
      go_wp2
      refine bodyPost_ret (v := .tuple #[.agg #[x], .bool true]) (by simp [results, Tryz.results23, go_sem, cHR]) rfl ⟨_, rfl, (HX.out.setn (by simp [VV.kind]) HR.out.2.1 _).wide (fun b _ h => .inr h), below_set1 _ HB.out (by omega)⟩
     ·obtain ⟨W1, hWn⟩ : ∃ W1, ((w.alloc (.cells #[u] 36)).alloc (.cells #[.nilIface] 36)) = W1 := ⟨_, rfl⟩
      have hB : Below w.heap.size w W1 := by rw [← hWn]; exact ((below_new _ _).alloc (by simp <;> omega) _)
      replace H := H.go hB; replace HT := HT.go hB; replace HB := cb hB HB
      have HA := Lib.hid (show At1 W1 w.heap.size (u) by rw [← hWn]; exact (At1.new w (u) 36).below (below_new _ _))
      have HR := Lib.hid (show At1 W1 (w.heap.size + 1) (.nilIface) by rw [← hWn]; have := At1.new (w.alloc (.cells #[u] 36)) (.nilIface) 36; simpa using this)
      clear hB; have cHA := HA.out.2.1; have cHR := HR.out.2.1
      go_enter Tryz.func23, Tryz.ntmps23
      go_wp2_with fail
      clear hWn
      refine (kind_calls _ _ _ H.out).mono ?_
      clear cHA cHR
      rintro e W2 ⟨rfl, hB⟩
      replace H := H.go hB; replace HT := HT.go hB; replace HA := HA.go hB; replace HR := HR.go hB; replace HB := cb hB HB; rw [HK.out]; clear hB; have cHA := HA.out.2.1; have cHR := HR.out.2.1
      go_wp2_with fail
      refine (class_calls _ _ _ H.out).mono ?_
      clear cHA cHR
      rintro e W3 ⟨rfl, hB⟩
      replace H := H.go hB; replace HT := HT.go hB; replace HA := HA.go hB; replace HR := HR.go hB; replace HB := cb hB HB; rw [HC.out]; clear hB; have cHA := HA.out.2.1; have cHR := HR.out.2.1
      go_wp2_with fail
      refine (Calls.grow_same (numeric_calls _ _)).mono ?_
      clear cHA cHR
      rintro e W4 ⟨rfl, hB⟩
      replace H := H.go hB; replace HT := HT.go hB; replace HA := HA.go hB; replace HR := HR.go hB; replace HB := cb hB HB; rw [HD.out]; clear hB; have cHA := HA.out.2.1; have cHR := HR.out.2.1
      go_wp2_with fail
      refine (least_calls _ _ _ H.out HOK.out HN.out HT.out).mono ?_
      clear cHA cHR
      rintro e W5 ⟨rfl, hB⟩
      replace H := H.go hB; replace HT := HT.go hB; replace HA := HA.go hB; replace HR := HR.go hB; replace HB := cb hB HB; rw [HL.out]; clear hB; have cHA := HA.out.2.1; have cHR := HR.out.2.1
      go_wp2_with fail
      refine (vnums_calls _ _ _ H.out HOK.out HT.out).mono ?_
      clear cHA cHR
      rintro e W6 ⟨v, rfl, hs, hB⟩
      replace H := H.go hB; replace HT := HT.go hB; replace HA := HA.go hB; replace HR := HR.go hB; replace HB := cb hB HB
      have HS := Lib.hid (show Slc W6 _ v l.length (f64s l) by have := hs.any; rw [HV.out] at this; exact this)
      clear hs; clear hB; have cHA := HA.out.2.1; have cHR := HR.out.2.1
      go_wp2_with fail
      have HK1 := Lib.hid (leastW_i8 (l := l) (by have h3 := HLW.out; have h4 := HL.out; omega))
      have HNL2 := Lib.hid (show (l.map wnOf).length ≤ 2000000 by rw [List.length_map]; have := HNL.out; omega)
      refine (whole8_calls _ l _ HS.out (by have := HNL.out; omega) HK1.out).mono ?_
      clear cHA cHR
      rintro e W7 ⟨b, rfl, hb2, hB⟩
      replace H := H.go hB; replace HT := HT.go hB; replace HA := HA.go hB; replace HR := HR.go hB; replace HS := HS.go hB; replace HB := cb hB HB
      have HBI := Lib.hid (show Slc W7 _ b (l.map wnOf).length (i8s (l.map wnOf)) by rw [List.length_map]; exact hb2)
      clear hb2; clear hB; have cHA := HA.out.2.1; have cHR := HR.out.2.1
      go_wp2_with fail
      have HZ9 := Lib.hid HB.out.size
      refine (vsmalls_calls _ _ _ HBI.out HNL2.out).mono ?_
      clear cHA cHR
      rintro e W8 ⟨x, rfl, hu, hB⟩
      replace H := H.go hB; replace HT := HT.go hB; replace HA := HA.go hB; replace HR := HR.go hB; replace HS := HS.go hB; replace HBI := HBI.go hB; replace HB := cb hB HB; have hsx := hu.store
      have HX := Lib.hid (hu.wide (ok' := fun b => w.heap.size ≤ b) (fun b _ h => Nat.le_trans HZ9.out h))
      clear hu; clear hB; have cHA := HA.out.2.1; have cHR := HR.out.2.1; have fHR := HR.out.2.2 0
      go_wp2
      refine bodyPost_ret (v := .tuple #[.agg #[x], .bool true]) (by simp [results, Tryz.results23, go_sem, cHR]) rfl ⟨_, rfl, (HX.out.setn (by simp [VV.kind]) HR.out.2.1 _).wide (fun b _ h => .inr h), below_set1 _ HB.out (by omega)⟩
     ·obtain ⟨W1, hWn⟩ : ∃ W1, ((w.alloc (.cells #[u] 36)).alloc (.cells #[.nilIface] 36)) = W1 := ⟨_, rfl⟩
      have hB : Below w.heap.size w W1 := by rw [← hWn]; exact ((below_new _ _).alloc (by simp <;> omega) _)
      replace H := H.go hB; replace HT := HT.go hB; replace HB := cb hB HB
      have HA := Lib.hid (show At1 W1 w.heap.size (u) by rw [← hWn]; exact (At1.new w (u) 36).below (below_new _ _))
      have HR := Lib.hid (show At1 W1 (w.heap.size + 1) (.nilIface) by rw [← hWn]; have := At1.new (w.alloc (.cells #[u] 36)) (.nilIface) 36; simpa using this)
      clear hB; have cHA := HA.out.2.1; have cHR := HR.out.2.1
      go_enter Tryz.func23, Tryz.ntmps23
      go_wp2_with fail
      clear hWn
      refine (kind_calls _ _ _ H.out).mono ?_
      clear cHA cHR
      rintro e W2 ⟨rfl, hB⟩
      replace H := H.go hB; replace HT := HT.go hB; replace HA := HA.go hB; replace HR := HR.go hB; replace HB := cb hB HB; rw [HK.out]; clear hB; have cHA := HA.out.2.1; have cHR := HR.out.2.1
      go_wp2_with fail
      refine (class_calls _ _ _ H.out).mono ?_
      clear cHA cHR
      rintro e W3 ⟨rfl, hB⟩
      replace H := H.go hB; replace HT := HT.go hB; replace HA := HA.go hB; replace HR := HR.go hB; replace HB := cb hB HB; rw [HC.out]; clear hB; have cHA := HA.out.2.1; have cHR := HR.out.2.1
      go_wp2_with fail
      refine (Calls.grow_same (numeric_calls _ _)).mono ?_
      clear cHA cHR
      rintro e W4 ⟨rfl, hB⟩
      replace H := H.go hB; replace HT := HT.go hB; replace HA := HA.go hB; replace HR := HR.go hB; replace HB := cb hB HB; rw [HD.out]; clear hB; have cHA := HA.out.2.1; have cHR := HR.out.2.1
      go_wp2_with fail
      refine (least_calls _ _ _ H.out HOK.out HN.out HT.out).mono ?_
      clear cHA cHR
      rintro e W5 ⟨rfl, hB⟩
      replace H := H.go hB; replace HT := HT.go hB; replace HA := HA.go hB; replace HR := HR.go hB; replace HB := cb hB HB; rw [HL.out]; clear hB; have cHA := HA.out.2.1; have cHR := HR.out.2.1
      go_wp2_with fail
      refine (vnums_calls _ _ _ H.out HOK.out HT.out).mono ?_
      clear cHA cHR
      rintro e W6 ⟨v, rfl, hs, hB⟩
      replace H := H.go hB; replace HT := HT.go hB; replace HA := HA.go hB; replace HR := HR.go hB; replace HB := cb hB HB
      have HS := Lib.hid (show Slc W6 _ v l.length (f64s l) by have := hs.any; rw [HV.out] at this; exact this)
      clear hs; clear hB; have cHA := HA.out.2.1; have cHR := HR.out.2.1
      go_wp2_with fail
      have HK1 := Lib.hid (leastW_wh (l := l) (by have h3 := HLW.out; have h4 := HL.out; omega))
      have HNL2 := Lib.hid (show (l.map wnOf).length ≤ 2000000 by rw [List.length_map]; have := HNL.out; omega)
      have HSM := Lib.hid (show (l.map wnOf).all sm = true by rw [List.all_eq_true]; intro z hz; obtain ⟨x, hx, rfl⟩ := List.mem_map.1 hz; obtain ⟨n, hn⟩ := HK1.out x hx; rw [wnOf_wh hn]; exact sm_yes (by have := hn.2.1; omega) (by have := hn.2.1; omega))
      refine (whole64_calls _ l _ HS.out (by have := HNL.out; omega) HK1.out).mono ?_
      clear cHA cHR
      rintro e W7 ⟨b, rfl, hb2, hB⟩
      replace H := H.go hB; replace HT := HT.go hB; replace HA := HA.go hB; replace HR := HR.go hB; replace HS := HS.go hB; replace HB := cb hB HB
      have HBI := Lib.hid (show Slc W7 _ b (l.map wnOf).length (ints (l.map wnOf)) by rw [List.length_map]; exact hb2)
      clear hb2; clear hB; have cHA := HA.out.2.1; have cHR := HR.out.2.1
      go_wp2_with fail
      have HZ9 := Lib.hid HB.out.size
      refine (vints_yes _ _ _ HBI.out HNL2.out HSM.out).mono ?_
      clear cHA cHR
      rintro e W8 ⟨x, rfl, hu, hB⟩
      replace H := H.go hB; replace HT := HT.go hB; replace HA := HA.go hB; replace HR := HR.go hB; replace HS := HS.go hB; replace HBI := HBI.go hB; replace HB := cb hB HB; have hsx := hu.store
      have HX := Lib.hid (hu.wide (ok' := fun b => w.heap.size ≤ b) (fun b _ h => Nat.le_trans HZ9.out h))
      clear hu; clear hB; have cHA := HA.out.2.1; have cHR := HR.out.2.1; have fHR := HR.out.2.2 0
      go_wp2
      refine bodyPost_ret (v := .tuple #[.agg #[x], .bool true]) (by simp [results, Tryz.results23, go_sem, cHR]) rfl ⟨_, rfl, (HX.out.setn (by simp [VV.kind]) HR.out.2.1 _).wide (fun b _ h => .inr h), below_set1 _ HB.out (by omega)⟩
     ·obtain ⟨W1, hWn⟩ : ∃ W1, ((w.alloc (.cells #[u] 36)).alloc (.cells #[.nilIface] 36)) = W1 := ⟨_, rfl⟩
      have hB : Below w.heap.size w W1 := by rw [← hWn]; exact ((below_new _ _).alloc (by simp <;> omega) _)
      replace H := H.go hB; replace HT := HT.go hB; replace HB := cb hB HB
      have HA := Lib.hid (show At1 W1 w.heap.size (u) by rw [← hWn]; exact (At1.new w (u) 36).below (below_new _ _))
      have HR := Lib.hid (show At1 W1 (w.heap.size + 1) (.nilIface) by rw [← hWn]; have := At1.new (w.alloc (.cells #[u] 36)) (.nilIface) 36; simpa using this)
      clear hB; have cHA := HA.out.2.1; have cHR := HR.out.2.1
      go_enter Tryz.func23, Tryz.ntmps23
      go_wp2_with fail
      clear hWn
      refine (kind_calls _ _ _ H.out).mono ?_
      clear cHA cHR
      rintro e W2 ⟨rfl, hB⟩
      replace H := H.go hB; replace HT := HT.go hB; replace HA := HA.go hB; replace HR := HR.go hB; replace HB := cb hB HB; rw [HK.out]; clear hB; have cHA := HA.out.2.1; have cHR := HR.out.2.1
      go_wp2_with fail
      refine (class_calls _ _ _ H.out).mono ?_
      clear cHA cHR
      rintro e W3 ⟨rfl, hB⟩
      replace H := H.go hB; replace HT := HT.go hB; replace HA := HA.go hB; replace HR := HR.go hB; replace HB := cb hB HB; rw [HC.out]; clear hB; have cHA := HA.out.2.1; have cHR := HR.out.2.1
      go_wp2_with fail
      refine (Calls.grow_same (numeric_calls _ _)).mono ?_
      clear cHA cHR
      rintro e W4 ⟨rfl, hB⟩
      replace H := H.go hB; replace HT := HT.go hB; replace HA := HA.go hB; replace HR := HR.go hB; replace HB := cb hB HB; rw [HD.out]; clear hB; have cHA := HA.out.2.1; have cHR := HR.out.2.1
      go_wp2_with fail
      refine (least_calls _ _ _ H.out HOK.out HN.out HT.out).mono ?_
      clear cHA cHR
      rintro e W5 ⟨rfl, hB⟩
      replace H := H.go hB; replace HT := HT.go hB; replace HA := HA.go hB; replace HR := HR.go hB; replace HB := cb hB HB; rw [HL.out]; clear hB; have cHA := HA.out.2.1; have cHR := HR.out.2.1
      go_wp2_with fail
      refine (vnums_calls _ _ _ H.out HOK.out HT.out).mono ?_
      clear cHA cHR
      rintro e W6 ⟨v, rfl, hs, hB⟩
      replace H := H.go hB; replace HT := HT.go hB; replace HA := HA.go hB; replace HR := HR.go hB; replace HB := cb hB HB
      have HS := Lib.hid (show Slc W6 _ v l.length (f64s l) by have := hs.any; rw [HV.out] at this; exact this)
      clear hs; clear hB; have cHA := HA.out.2.1; have cHR := HR.out.2.1
      go_wp2_with fail
      have HFN := Lib.hid (show ∀ x ∈ l, Fnt x from fun x hx => (HNU.out x hx).1)
      have HZ9 := Lib.hid HB.out.size
      refine (vfloats_yes _ l _ HS.out (by have := HNL.out; omega) HFN.out).mono ?_
      clear cHA cHR
      rintro e W7 ⟨x, rfl, hu, hB⟩
      replace H := H.go hB; replace HT := HT.go hB; replace HA := HA.go hB; replace HR := HR.go hB; replace HS := HS.go hB; replace HB := cb hB HB; have hsx := hu.store
      have HX := Lib.hid (show IsV W7 (fun b => w.heap.size ≤ b) x (.floats l) by have := hu.wide (ok' := fun b => w.heap.size ≤ b) (fun b _ h => Nat.le_trans HZ9.out h); rw [map_ze HNU.out] at this; exact this)
      clear hu; clear hB; have cHA := HA.out.2.1; have cHR := HR.out.2.1; have fHR := HR.out.2.2 0
      go_wp2
      refine bodyPost_ret (v := .tuple #[.agg #[x], .bool true]) (by simp [results, Tryz.results23, go_sem, cHR]) rfl ⟨_, rfl, (HX.out.setn (by simp [VV.kind]) HR.out.2.1 _).wide (fun b _ h => .inr h), below_set1 _ HB.out (by omega)⟩
    ·have HF := Lib.hid (show V.fit k = false by unfold VV.fit; rw [decide_eq_false h0, decide_eq_false hle]; simp)
     have HE := Lib.hid (VV.into_no HF.out)
     rw [HF.out, HE.out]
     have hcC : (C != 0) = false := by rw [← hC, hc]; rfl
     have hLk : k < L := by omega
     clear h0 hc hK hC hL hle hnm
     obtain ⟨W1, hWn⟩ : ∃ W1, ((w.alloc (.cells #[u] 36)).alloc (.cells #[.nilIface] 36)) = W1 := ⟨_, rfl⟩
     have hB : Below w.heap.size w W1 := by rw [← hWn]; exact ((below_new _ _).alloc (by simp <;> omega) _)
     replace H := H.go hB; replace HT := HT.go hB; replace HB := cb hB HB
     have HA := Lib.hid (show At1 W1 w.heap.size (u) by rw [← hWn]; exact (At1.new w (u) 36).below (below_new _ _))
     have HR := Lib.hid (show At1 W1 (w.heap.size + 1) (.nilIface) by rw [← hWn]; have := At1.new (w.alloc (.cells #[u] 36)) (.nilIface) 36; simpa using this)
     clear hB; have cHA := HA.out.2.1; have cHR := HR.out.2.1
     go_enter Tryz.func23, Tryz.ntmps23
     go_wp2_with fail
     clear hWn
     refine (kind_calls _ _ _ H.out).mono ?_
     clear cHA cHR
     rintro e W2 ⟨rfl, hB⟩
     replace H := H.go hB; replace HT := HT.go hB; replace HA := HA.go hB; replace HR := HR.go hB; replace HB := cb hB HB; rw [HK.out]; clear hB; have cHA := HA.out.2.1; have cHR := HR.out.2.1
     go_wp2_with fail
     refine (class_calls _ _ _ H.out).mono ?_
     clear cHA cHR
     rintro e W3 ⟨rfl, hB⟩
     replace H := H.go hB; replace HT := HT.go hB; replace HA := HA.go hB; replace HR := HR.go hB; replace HB := cb hB HB; rw [HC.out]; clear hB; have cHA := HA.out.2.1; have cHR := HR.out.2.1
     go_wp2_with fail
     refine (Calls.grow_same (numeric_calls _ _)).mono ?_
     clear cHA cHR
     rintro e W4 ⟨rfl, hB⟩
     replace H := H.go hB; replace HT := HT.go hB; replace HA := HA.go hB; replace HR := HR.go hB; replace HB := cb hB HB; rw [HD.out]; clear hB; have cHA := HA.out.2.1; have cHR := HR.out.2.1
     go_wp2_with fail
     refine (least_calls _ _ _ H.out HOK.out HN.out HT.out).mono ?_
     clear cHA cHR
     rintro e W5 ⟨rfl, hB⟩
     replace H := H.go hB; replace HT := HT.go hB; replace HA := HA.go hB; replace HR := HR.go hB; replace HB := cb hB HB; rw [HL.out]; clear hB; have cHA := HA.out.2.1; have cHR := HR.out.2.1; have fHR := HR.out.2.2 0
     go_wp2
     refine bodyPost_ret (v := .tuple #[.agg #[.nilIface], .bool false]) (by simp [results, Tryz.results23, go_sem, cHR]) rfl ⟨_, rfl, .none, below_set1 _ HB.out (by omega)⟩
   ·have HF := Lib.hid (show V.fit k = false by unfold VV.fit; rw [decide_eq_false h0, decide_eq_false hnm]; simp)
    have HE := Lib.hid (VV.into_no HF.out)
    have HD := Lib.hid (decide_eq_false hnm)
    rw [HF.out, HE.out]
    have hcC : (C != 0) = false := by rw [← hC, hc]; rfl
    clear h0 hc hK hC hnm
    obtain ⟨W1, hWn⟩ : ∃ W1, ((w.alloc (.cells #[u] 36)).alloc (.cells #[.nilIface] 36)) = W1 := ⟨_, rfl⟩
    have hB : Below w.heap.size w W1 := by rw [← hWn]; exact ((below_new _ _).alloc (by simp <;> omega) _)
    replace H := H.go hB; replace HT := HT.go hB; replace HB := cb hB HB
    have HA := Lib.hid (show At1 W1 w.heap.size (u) by rw [← hWn]; exact (At1.new w (u) 36).below (below_new _ _))
    have HR := Lib.hid (show At1 W1 (w.heap.size + 1) (.nilIface) by rw [← hWn]; have := At1.new (w.alloc (.cells #[u] 36)) (.nilIface) 36; simpa using this)
    clear hB; have cHA := HA.out.2.1; have cHR := HR.out.2.1
    go_enter Tryz.func23, Tryz.ntmps23
    go_wp2_with fail
    clear hWn
    refine (kind_calls _ _ _ H.out).mono ?_
    clear cHA cHR
    rintro e W2 ⟨rfl, hB⟩
    replace H := H.go hB; replace HT := HT.go hB; replace HA := HA.go hB; replace HR := HR.go hB; replace HB := cb hB HB; rw [HK.out]; clear hB; have cHA := HA.out.2.1; have cHR := HR.out.2.1
    go_wp2_with fail
    refine (class_calls _ _ _ H.out).mono ?_
    clear cHA cHR
    rintro e W3 ⟨rfl, hB⟩
    replace H := H.go hB; replace HT := HT.go hB; replace HA := HA.go hB; replace HR := HR.go hB; replace HB := cb hB HB; rw [HC.out]; clear hB; have cHA := HA.out.2.1; have cHR := HR.out.2.1
    go_wp2_with fail
    refine (Calls.grow_same (numeric_calls _ _)).mono ?_
    clear cHA cHR
    rintro e W4 ⟨rfl, hB⟩
    replace H := H.go hB; replace HT := HT.go hB; replace HA := HA.go hB; replace HR := HR.go hB; replace HB := cb hB HB; rw [HD.out]; clear hB; have cHA := HA.out.2.1; have cHR := HR.out.2.1; have fHR := HR.out.2.2 0
    go_wp2
    refine bodyPost_ret (v := .tuple #[.agg #[.nilIface], .bool false]) (by simp [results, Tryz.results23, go_sem, cHR]) rfl ⟨_, rfl, .none, below_set1 _ HB.out (by omega)⟩
  ·have HF := Lib.hid (show V.fit k = false by unfold VV.fit; rw [decide_eq_false h0, decide_eq_false hc]; simp)
   have HE := Lib.hid (VV.into_no HF.out)
   rw [HF.out, HE.out]
   have hcC : (C != 0) = true := by rw [← hC]; simpa using hc
   clear h0 hc hK hC
   obtain ⟨W1, hWn⟩ : ∃ W1, ((w.alloc (.cells #[u] 36)).alloc (.cells #[.nilIface] 36)) = W1 := ⟨_, rfl⟩
   have hB : Below w.heap.size w W1 := by rw [← hWn]; exact ((below_new _ _).alloc (by simp <;> omega) _)
   replace H := H.go hB; replace HT := HT.go hB; replace HB := cb hB HB
   have HA := Lib.hid (show At1 W1 w.heap.size (u) by rw [← hWn]; exact (At1.new w (u) 36).below (below_new _ _))
   have HR := Lib.hid (show At1 W1 (w.heap.size + 1) (.nilIface) by rw [← hWn]; have := At1.new (w.alloc (.cells #[u] 36)) (.nilIface) 36; simpa using this)
   clear hB; have cHA := HA.out.2.1; have cHR := HR.out.2.1
   go_enter Tryz.func23, Tryz.ntmps23
   go_wp2_with fail
   clear hWn
   refine (kind_calls _ _ _ H.out).mono ?_
   clear cHA cHR
   rintro e W2 ⟨rfl, hB⟩
   replace H := H.go hB; replace HT := HT.go hB; replace HA := HA.go hB; replace HR := HR.go hB; replace HB := cb hB HB; rw [HK.out]; clear hB; have cHA := HA.out.2.1; have cHR := HR.out.2.1
   go_wp2_with fail
   refine (class_calls _ _ _ H.out).mono ?_
   clear cHA cHR
   rintro e W3 ⟨rfl, hB⟩
   replace H := H.go hB; replace HT := HT.go hB; replace HA := HA.go hB; replace HR := HR.go hB; replace HB := cb hB HB; rw [HC.out]; clear hB; have cHA := HA.out.2.1; have cHR := HR.out.2.1; have fHR := HR.out.2.2 0
   go_wp2
   refine bodyPost_ret (v := .tuple #[.agg #[.nilIface], .bool false]) (by simp [results, Tryz.results23, go_sem, cHR]) rfl ⟨_, rfl, .none, below_set1 _ HB.out (by omega)⟩
end Go.Proofs.YtbdhibcbpgjbmaaGreatDoor
