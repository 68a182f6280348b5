/- Merged: FoW, FoM, FoA, FoB, FoS, FoC, FoX, FoY, FoN, FoT, FoF, FoR, FoU, FoV, FoZ, FoP, FoD. -/
import Derived.Lib.BitFns
import Derived.Laws.CopyOwn
import Derived.Deep.DeepMust
import Derived.Laws.Cover1
import Derived.Test.YtghojndkcndjbaaGreatDoorMgVe1
import Derived.Test.YtghojndkcndjbaaGreatDoorMgLo1
import Derived.Test.YtghojndkcndjbaaGreatDoorMgBv1
import Derived.Test.YtghojndkcndjbaaGreatDoorMgRe1
import Derived.Test.YtghojndkcndjbaaGreatDoorMgAr1
import Derived.Test.YtghojndkcndjbaaGreatDoorMgNu1
import Derived.Test.YtghojndkcndjbaaGreatDoorMgSq1
import Derived.Test.YtghojndkcndjbaaGreatDoorMgSh1
import Derived.Test.YtghojndkcndjbaaGreatDoorMgBx1
/- Layer 13, walked: bits.Mul by one, slices.Repeat of one number. -/
namespace Go.Proofs.YtghojndkcndjbaaGreatDoor
set_option maxRecDepth 100000
open Go.RowKit
set_option linter.unusedVariables false

theorem bmul64_calls (c : Nat) (hc : c ≤ 1048576) (w : World) : Calls Tryz.prog 167 #[.int .u64 1, .int .u64 (c : Int)] w fun e w' => e = .returned (.tuple #[.int .u64 0, .int .u64 (c : Int)]) ∧ w = w' := by
  have a1 : bits BinOp.and IntKind.u64 1 4294967295 = 1 := by decide +kernel
  have a2 : bits BinOp.and IntKind.u64 (c : Int) 4294967295 = (c : Int) := by
    have h := u64_and_nat c 4294967295 (by omega) (by decide)
    have e : c &&& 4294967295 = c := by
      have := Nat.and_two_pow_sub_one_eq_mod c 32
      rw [show (2 : Nat) ^ 32 - 1 = 4294967295 by decide] at this
      rw [this]; exact Nat.mod_eq_of_lt (by omega)
    rw [e] at h
    exact h
  have a3 : ((c : Int) / 4294967296) = 0 := by omega
  go_enter Tryz.func167, Tryz.ntmps167
  go_wp2
  go_ret2
  exact ⟨rfl, rfl⟩
theorem bmul_calls (c : Nat) (hc : c ≤ 1048576) (w : World) : Calls Tryz.prog 142 #[.int .u64 1, .int .u64 (c : Int)] w fun e w' => e = .returned (.tuple #[.int .u64 0, .int .u64 (c : Int)]) ∧ w = w' := by
  have HC := Lib.hid hc
  go_enter Tryz.func142, Tryz.ntmps142
  go_wp2_with ((with_reducible refine (bmul64_calls c HC.out _).mono ?_); rintro e w' ⟨rfl, rfl⟩)
  go_ret2
  exact ⟨rfl, rfl⟩
/-- A row of c cells, the first n of them x. -/
def repF (x c n : Nat) : List Value := List.replicate n (.float .f64 x) ++ List.replicate (c - n) (.float .f64 0)
theorem repF_len (x c n : Nat) (h : n ≤ c) : (repF x c n).length = c := by simp [repF]; omega
theorem repF_full (x c : Nat) : repF x c c = List.replicate c (.float .f64 x) := by simp [repF]
theorem repF_zero (x c : Nat) : repF x c 0 = List.replicate c (.float .f64 0) := by simp [repF]
theorem repF_splice (x c n k : Nat) (h : n + k ≤ c) : splice (repF x c n) n (List.replicate k (.float .f64 x)) = repF x c (n + k) := by
  unfold splice repF
  rw [List.take_left' (by simp), List.length_replicate, ← List.append_assoc, List.replicate_append_replicate, List.drop_append, List.drop_eq_nil_of_le (by simp), List.nil_append, List.drop_replicate]
  congr 2
  simp; omega
theorem repF_get (x c n : Nat) {j : Nat} (hj : j < n) : (repF x c n)[j]? = some (.float .f64 x) := by
  unfold repF
  rw [List.getElem?_append_left (by simpa using hj), List.getElem?_replicate, if_pos hj]
theorem lt_heap {w : World} {g : Nat} {o : Obj} (h : w.heap[g]? = some o) : g < w.heap.size := (Array.getElem?_eq_some_iff.1 h).1
theorem row_cell {w : World} {g j : Nat} {l : List Value} {t : TypeId} {u : Value} (h : w.heap[g]? = some (.cells l.toArray t (0, 0))) (hj : l[j]? = some u) : w.cell? ⟨g, j, none⟩ = some u := by
  simp [World.cell?, h, hj]
theorem add_cell {w : World} {b off j : Nat} {u : Value} (h : w.cell? ⟨b, off + j, none⟩ = some u) : w.cell? ((⟨b, off, none⟩ : Addr).add j) = some u := by
  by_cases h0 : j = 0
  · subst h0; simpa [Addr.add] using h
  · simpa [Addr.add, h0] using h
set_option maxHeartbeats 4000000 in
theorem srepeat_calls {ok : Nat → Prop} (v : Value) (x c : Nat) (w : World) (hv : Slc w ok v 1 [.float .f64 x]) (hc : c ≤ 1048576) :
    Calls Tryz.prog 103 #[v, .int .i64 (c : Int)] w fun e w' => ∃ v', e = .returned v' ∧ Slc w' (fun b => w.heap.size ≤ b) v' c (List.replicate c (.float .f64 x)) ∧ Below w.heap.size w w' := by
  obtain ⟨ao, cap, rfl, h1, h2, h3, h4⟩ := hv.opened
  obtain ⟨b, off, rfl, hok, hx⟩ := h4 0 (by simp)
  simp only [Nat.add_zero, List.getElem_cons_zero] at hx
  have HX := Lib.hid hx; have HC := Lib.hid hc
  have hmk := run_mkF1 c (by omega) w
  obtain ⟨i0, hi, hz0, hz1, hz2⟩ := info_parts info_f64
  have HSZ := Lib.hid (show (Tryz.prog.info? 22).map (·.size) = some 1 by rw [hi]; simp [hz1])
  clear hi hz0 hz1 hz2
  obtain ⟨W0, hW0⟩ : ∃ W0, W0 = w.alloc (.cells (zerosV (.float .f64 0) c) 22) := ⟨_, rfl⟩
  have HB0 := Lib.hid (show Below w.heap.size w W0 by rw [hW0]; exact below_new _ _)
  have HG0 := Lib.hid (show W0.heap[w.heap.size]? = some (.cells (repF x c 0).toArray 22 (0, 0)) by
    have e : zerosV (.float .f64 0) c = (List.replicate c (Value.float .f64 0)).toArray := Array.toList_inj.1 (by rw [zerosV, toList_madeCells_one]; simp)
    rw [hW0, repF_zero, e]
    simp only [World.alloc, Array.getElem?_push_size])
  have HX0 := Lib.hid (keep_below HB0.out _ _ HX.out)
  obtain ⟨k, hk⟩ : ∃ k, Nat.min 1 c = k := ⟨_, rfl⟩
  have hkc : k ≤ c := by rw [← hk]; exact Nat.min_le_right _ _
  have HK1 := Lib.hid (show k ≤ 1 by rw [← hk]; exact Nat.min_le_left _ _)
  have HKC := Lib.hid (show 0 < c → 0 < k by intro h; rw [← hk]; show 0 < min 1 c; omega)
  obtain ⟨cs, hcs⟩ : ∃ cs : List Value, List.replicate k (.float .f64 x) = cs := ⟨_, rfl⟩
  have HCL := Lib.hid (show cs.length = Nat.min 1 c by rw [← hcs, List.length_replicate, hk])
  have HCE := Lib.hid (show cs.length = k by rw [← hcs, List.length_replicate])
  have HCQ := Lib.hid (show ∀ (j : Nat) (u : Value), cs[j]? = some u → W0.cell? ⟨b, off + j, none⟩ = some u by
    intro j u hj
    obtain ⟨h9, h8⟩ := List.getElem?_eq_some_iff.1 hj
    have hj0 : j = 0 := by rw [← hcs, List.length_replicate] at h9; have := HK1.out; omega
    subst hj0
    have : u = .float .f64 x := by rw [← h8]; simp [← hcs]
    rw [this]
    exact HX0.out)
  have HCF := Lib.hid (show 0 + cs.length ≤ (repF x c 0).length by rw [HCE.out, repF_len x c 0 (by omega)]; omega)
  have HC1 := Lib.hid (show ∀ u ∈ cs, u.oneCell' = true by rw [← hcs]; intro u hu; rw [(List.mem_replicate.1 hu).2]; rfl)
  have HSP := Lib.hid (show splice (repF x c 0) 0 cs = repF x c k by rw [← hcs]; have := repF_splice x c 0 k (by omega); rwa [Nat.zero_add] at this)
  clear hv h1 h2 h3 h4 hok hx hcs hk
  have hfold := hW0.symm
  clear hW0
  go_enter Tryz.func103, Tryz.ntmps103
  go_wp2_with (first | ((with_reducible refine (bmul_calls c HC.out _).mono ?_); rintro e w' ⟨rfl, rfl⟩) | ((with_reducible show wpList _ _ _ ({ dst := some 33, op := _, type := _, pos := _, after := _, guard := _ } :: _) _ _); go_must (refine wpList_copy_splice rfl (.tmp 31) (.tmp 32) 38 38 rfl 22 Tryz.underlying38 HSZ.out _ _ c c 1 cap rfl rfl w.heap.size 0 (repF x c 0) 22 HG0.out cs HCL.out (fun _ => ⟨rfl, _, rfl, fun j u hj => add_cell (HCQ.out j u hj)⟩) HCF.out HC1.out w.heap.size w HB0.out (Nat.le_refl _) ?_)))
  intro w2 HG2 hB2
  rw [HCE.out]
  rw [HSP.out] at HG2
  have HB2 := Lib.hid hB2; clear hB2 hfold hmk; clear HX0 HCQ HCF HC1 HCL HCE
  go_wp2
  go_loopw [8] (fun nn wr => ∃ n : Nat, n ≤ c ∧ (0 < c → 0 < n) ∧ nn = .int .i64 n ∧ Hid (wr.heap[w.heap.size]? = some (.cells (repF x c n).toArray 22 (0, 0))) ∧ Below w.heap.size w wr) (fun nn _ => c - (intOf nn).toNat)
  case atStart => exact ⟨k, hkc, HKC.out, rfl, HG2, HB2.out⟩
  case round =>
    obtain ⟨n, hn, hpos, rfl, HG, hB⟩ := hrel
    have HB := Lib.hid hB; have HP := Lib.hid hpos; clear hB hpos
    by_cases hlt : n < c
    · obtain ⟨q, hq⟩ : ∃ q, Nat.min n (c - n) = q := ⟨_, rfl⟩
      have hn0 : 0 < n := HP.out (by omega)
      have hq0 : 0 < q := by rw [← hq]; show 0 < min n (c - n); omega
      have hqc : n + q ≤ c := by have : q ≤ c - n := by rw [← hq]; exact Nat.min_le_right _ _
                                 omega
      obtain ⟨cs2, hcs⟩ : ∃ cs2 : List Value, List.replicate q (.float .f64 x) = cs2 := ⟨_, rfl⟩
      have HCE := Lib.hid (show cs2.length = q by rw [← hcs, List.length_replicate])
      have HCQ := Lib.hid (show ∀ (j : Nat) (u : Value), cs2[j]? = some u → wr.cell? ⟨w.heap.size, 0 + j, none⟩ = some u by
        intro j u hj
        obtain ⟨h9, h8⟩ := List.getElem?_eq_some_iff.1 hj
        have hjq : j < q := by rw [← hcs, List.length_replicate] at h9; exact h9
        have : u = .float .f64 x := by rw [← h8]; simp [← hcs]
        rw [this, Nat.zero_add]
        exact row_cell HG.out (repF_get x c n (by have : q ≤ n := (by rw [← hq]; exact Nat.min_le_left _ _); omega)))
      have HS0 := Lib.hid (show wr.cell? ⟨w.heap.size, 0, none⟩ = some (.float .f64 x) from row_cell HG.out (repF_get x c n hn0))
      have HC1 := Lib.hid (show ∀ u ∈ cs2, u.oneCell' = true by rw [← hcs]; intro u hu; rw [(List.mem_replicate.1 hu).2]; rfl)
      have HSP := Lib.hid (show splice (repF x c n) n cs2 = repF x c (n + q) by rw [← hcs]; exact repF_splice x c n q hqc)
      have HHQ := Lib.hid hq
      obtain ⟨e, he⟩ : ∃ e, c - n = e := ⟨_, rfl⟩
      have HQE := Lib.hid (show cs2.length = Nat.min n e by rw [HCE.out, ← he, hq])
      have HCF := Lib.hid (show n + cs2.length ≤ (repF x c n).length by rw [HCE.out, repF_len x c n hn]; exact hqc)
      clear hcs hq
      go_wp2_with fail
--TREE
      have hcn : (c = n) = False := eq_false (by omega)
      have HGO := Lib.hid HG.out; have HBW := Lib.hid HB.out
      obtain ⟨W11, hWD, hB⟩ := drwn wr
      replace HS0 := Lib.hid (keep_below hB _ _ HS0.out)
      replace HB := cb hB HB
      replace HG := Lib.hid ((hB.block _ (lt_heap HG.out)).trans HG.out)
      replace HCQ := Lib.hid (fun j u hj => keep_below hB _ _ (HCQ.out j u hj))
      clear hB
      refine rgn (S := fun w' => w'.cell? ⟨w.heap.size, 0, none⟩ = some (.float .f64 x)) hWD HS0.out (fun hHeld => ?_)
      clear hWD; apply tk 0; apply tk 1; apply tk 2; apply tk 3; apply tk 4; apply tk 5; apply tk 6
      apply rdy 7; intro K hK; clear hHeld
      refine step_copy_splice rfl (.tmp 41) (.tmp 44) 38 38 rfl 22 Tryz.underlying38 HSZ.out (some ⟨w.heap.size, n, none⟩) (some ⟨w.heap.size, 0, none⟩) e e n c rfl rfl w.heap.size n (repF x c n) 22 HG.out cs2 HQE.out (fun _ => ⟨rfl, _, rfl, fun j u hj => add_cell (HCQ.out j u hj)⟩) HCF.out HC1.out w.heap.size w HB.out (Nat.le_refl _) ?_
      intro w4 HG4 hB4
      rw [HSP.out] at HG4
      rw [HCE.out]; have HB4 := Lib.hid hB4
      have HS4 := Lib.hid (show w4.cell? ⟨w.heap.size, 0, none⟩ = some (.float .f64 x) from row_cell HG4.out (repF_get x c (n + q) (by omega)))
      clear hB4
      refine hK.out _ _ HS4.out (fun hHeld => ?_)
      clear hK K; apply tk 8; apply tk 9
      refine wpAnyH_done (by kernel_rfl) ?_ _
      clear hHeld
      have hw : IntKind.i64.wrap ((n : Int) + (q : Int)) = ((n + q : Nat) : Int) := by rw [IntWalk.i64_in _ (by omega)]; omega
      go_wp2
      go_roundw
      case rel => exact ⟨n + q, hqc, fun _ => by omega, congrArg (Value.int .i64) (by rw [IntWalk.i64_in _ (by omega)]; omega), HG4, HB4.out⟩
      case measure => simp [intOf]; omega
--END
--END
--END
--END
--END
--END
    · have hnc : n = c := by omega
      have HL := Lib.hid (show Slc wr (fun b => w.heap.size ≤ b) (.slice (some ⟨w.heap.size, 0, none⟩) c c) c (List.replicate c (.float .f64 x)) by
        rw [hnc, repF_full] at HG
        refine ⟨⟨by simp, _, _, rfl, fun i hi => ⟨_, _, rfl, Nat.le_refl _, ?_⟩⟩, _, _, rfl, Nat.le_refl _, by have := HC.out; unfold maxLen; omega⟩
        rw [Nat.zero_add]
        exact row_cell HG.out (List.getElem?_eq_getElem hi))
      clear hnc
      go_wp2
      go_ret
      exact ⟨_, rfl, HL.out, HB.out⟩
end Go.Proofs.YtghojndkcndjbaaGreatDoor

/- Layer 13, plain: any function of two numbers; a row put together from its end on; the rows of a vector; rows of booleans. -/
namespace Go.Proofs.YtghojndkcndjbaaGreatDoor
set_option maxRecDepth 100000
open Go.RowKit Fl
set_option linter.unusedVariables false

/-- Any function of two numbers: the word and the error. -/
noncomputable def fone (f : Int) (a b : Nat) : Nat × Int :=
 if 1 ≤ f ∧ f ≤ 8 then oneA f a b else if 11 ≤ f ∧ f ≤ 16 then (flagW (relB f a b), 0)
 else if 21 ≤ f ∧ f ≤ 24 then (if isT a = true ∧ isT b = true then (flagW (logB f (bitW a) (bitW b)), 0) else (0, 24)) else (0, 1)
def fknown (f : Int) : Bool := decide (1 ≤ f ∧ f ≤ 8) || decide (11 ≤ f ∧ f ≤ 16) || decide (21 ≤ f ∧ f ≤ 24)
theorem fknown_cases {f : Int} (h : fknown f = true) : (1 ≤ f ∧ f ≤ 8) ∨ (11 ≤ f ∧ f ≤ 16) ∨ (21 ≤ f ∧ f ≤ 24) := by
 simp only [fknown, Bool.or_eq_true, decide_eq_true_eq] at h; omega
theorem fknown_no {f : Int} (h : fknown f = false) : ¬ (1 ≤ f ∧ f ≤ 8) ∧ ¬ (11 ≤ f ∧ f ≤ 16) ∧ ¬ (21 ≤ f ∧ f ≤ 24) := by
 simp only [fknown, Bool.or_eq_false_iff, decide_eq_false_iff_not] at h; omega
theorem fone_a {f : Int} (a b : Nat) (h : 1 ≤ f ∧ f ≤ 8) : fone f a b = oneA f a b := if_pos h
theorem fone_r {f : Int} (a b : Nat) (h : 11 ≤ f ∧ f ≤ 16) : fone f a b = (flagW (relB f a b), 0) := by unfold fone; rw [if_neg (by omega), if_pos h]
theorem fone_l {f : Int} {a b : Nat} (h : 21 ≤ f ∧ f ≤ 24) (ha : isT a = true) (hb : isT b = true) : fone f a b = (flagW (logB f (bitW a) (bitW b)), 0) := by unfold fone; rw [if_neg (by omega), if_neg (by omega), if_pos h, if_pos ⟨ha, hb⟩]
theorem fone_l24 {f : Int} {a b : Nat} (h : 21 ≤ f ∧ f ≤ 24) (hn : ¬ (isT a = true ∧ isT b = true)) : fone f a b = (0, 24) := by unfold fone; rw [if_neg (by omega), if_neg (by omega), if_pos h, if_neg hn]
theorem fone_no {f : Int} (a b : Nat) (h : fknown f = false) : fone f a b = (0, 1) := by
 obtain ⟨h1, h2, h3⟩ := fknown_no h
 unfold fone; rw [if_neg h1, if_neg h2, if_neg h3]
theorem flagW_num (b : Bool) : Num (flagW b) := by cases b <;> first | exact num_zero | exact num_one
theorem fone_num {f : Int} {a b : Nat} (ha : Num a) (hb : Num b) : Num (fone f a b).1 := by
 unfold fone
 split
 ·exact oneA_num ha hb
 ·split
  ·exact flagW_num _
  ·split
   ·split
    ·exact flagW_num _
    ·exact num_zero
   ·exact num_zero
/-- What comes of no elements. -/
def fstart (f : Int) : Nat × Bool :=
 if f = 1 ∨ f = 2 ∨ f = 7 ∨ f = 11 ∨ f = 15 ∨ f = 16 ∨ f = 22 then (0, true)
 else if f = 3 ∨ f = 4 ∨ f = 8 ∨ f = 12 ∨ f = 13 ∨ f = 14 ∨ f = 21 then (4607182418800017408, true)
 else if f = 5 then (18442240474082181119, true) else if f = 6 then (9218868437227405311, true) else (0, false)
theorem fstart_num (f : Int) : Num (fstart f).1 := by
 unfold fstart
 split; exact num_zero
 split; exact num_one
 split; exact ⟨⟨by decide, by decide⟩, by decide +kernel⟩
 split; exact ⟨⟨by decide, by decide⟩, by decide +kernel⟩
 exact num_zero

/-- A row put together, from its end on. -/
def nrm (p : Nat × Int) : Nat × Int := if p.2 = 0 then p else (0, p.2)
theorem nrm_ok {p : Nat × Int} (h : p.2 = 0) : nrm p = (p.1, 0) := by unfold nrm; rw [if_pos h]; exact Prod.ext rfl h
theorem nrm_bad {p : Nat × Int} (h : p.2 ≠ 0) : nrm p = (0, p.2) := if_neg h
noncomputable def rowN (f : Int) : List Nat → Nat × Int
 | [] => if (fstart f).2 = true then ((fstart f).1, 0) else (0, 24)
 | [x] => (x, 0)
 | x :: y :: l => if (rowN f (y :: l)).2 = 0 then nrm (fone f x (rowN f (y :: l)).1) else rowN f (y :: l)
theorem rowN_cons (f : Int) (x : Nat) {l : List Nat} (h : l ≠ []) : rowN f (x :: l) = if (rowN f l).2 = 0 then nrm (fone f x (rowN f l).1) else rowN f l := by
 cases l with
 | nil => exact absurd rfl h
 | cons y l => rfl
theorem rowN_last (f : Int) {l : List Nat} (h : 0 < l.length) : rowN f (l.drop (l.length - 1)) = (l.getD (l.length - 1) 0, 0) := by
 have h1 : l.length - 1 < l.length := by omega
 rw [List.drop_eq_getElem_cons h1, List.drop_eq_nil_of_le (by omega), List.getD_eq_getElem?_getD, List.getElem?_eq_getElem h1]
 rfl
theorem rowN_step (f : Int) {l : List Nat} {i : Nat} (h : i + 1 < l.length) : rowN f (l.drop i) = if (rowN f (l.drop (i + 1))).2 = 0 then nrm (fone f (l.getD i 0) (rowN f (l.drop (i + 1))).1) else rowN f (l.drop (i + 1)) := by
 rw [List.drop_eq_getElem_cons (show i < l.length by omega), rowN_cons f _ (by intro h2; have := congrArg List.length h2; simp at this; omega), List.getD_eq_getElem?_getD, List.getElem?_eq_getElem (show i < l.length by omega)]
 rfl
theorem rowN_bad (f : Int) {l : List Nat} : ∀ (i : Nat), i < l.length → (rowN f (l.drop i)).2 ≠ 0 → rowN f l = rowN f (l.drop i) := by
 intro i
 induction i with
 | zero => intro _ _; rw [List.drop_zero]
 | succ i ih =>
  intro h hb
  have hs : rowN f (l.drop i) = rowN f (l.drop (i + 1)) := by rw [rowN_step f h, if_neg hb]
  rw [← hs]
  exact ih (by omega) (by rw [hs]; exact hb)
theorem rowN_num {f : Int} : ∀ {l : List Nat}, (∀ x ∈ l, Num x) → Num (rowN f l).1
 | [], _ => by unfold rowN; split; exact fstart_num f; exact num_zero
 | [x], h => h x (by simp)
 | x :: y :: l, h => by
  have ih := rowN_num (f := f) (l := y :: l) fun z hz => h z (List.mem_cons_of_mem _ hz)
  rw [rowN]
  split
  ·unfold nrm
   split
   ·exact fone_num (h x (by simp)) ih
   ·exact num_zero
  ·exact ih
/-- The elements of a row, inner apart; all rows. -/
def lineG {α : Type} (d : α) (l : List α) (n inner o k : Nat) : List α := (List.range n).map fun i => l.getD ((o * n + i) * inner + k) d
theorem lineG_len {α : Type} (d : α) (l : List α) (n inner o k : Nat) : (lineG d l n inner o k).length = n := by simp [lineG]
theorem lineG_get {α : Type} (d : α) (l : List α) (n inner o k : Nat) {i : Nat} (h : i < n) : (lineG d l n inner o k).getD i d = l.getD ((o * n + i) * inner + k) d := by
 rw [List.getD_eq_getElem?_getD, List.getElem?_eq_getElem (by rw [lineG_len]; exact h)]; simp [lineG]
theorem place_lt {outer n inner o i k : Nat} (ho : o < outer) (hi : i < n) (hk : k < inner) : (o * n + i) * inner + k < outer * n * inner := by
 have h1 : o * n + i + 1 ≤ outer * n := by
  have := Nat.mul_le_mul_right n (show o + 1 ≤ outer by omega)
  rw [Nat.add_mul] at this; omega
 have h2 := Nat.mul_le_mul_right inner h1
 rw [Nat.add_mul] at h2; omega
theorem lineG_num {l : List Nat} {n inner o k : Nat} (h : ∀ x ∈ l, Num x) : ∀ x ∈ lineG 0 l n inner o k, Num x := by
 intro x hx
 obtain ⟨i, _, rfl⟩ := List.mem_map.1 hx
 rw [List.getD_eq_getElem?_getD]
 cases e : l[(o * n + i) * inner + k]? with
 | none => exact num_zero
 | some y => exact h y (List.mem_of_getElem? e)
def rowsL (l : List Nat) (outer n inner : Nat) : List (List Nat) := (List.range (outer * inner)).map fun q => lineG 0 l n inner (q / inner) (q % inner)
theorem rowsL_len (l : List Nat) (outer n inner : Nat) : (rowsL l outer n inner).length = outer * inner := by simp [rowsL]
theorem rowsL_get {l : List Nat} {outer n inner o k : Nat} (ho : o < outer) (hk : k < inner) : (rowsL l outer n inner)[o * inner + k]? = some (lineG 0 l n inner o k) := by
 have hlt : o * inner + k < outer * inner := by
  have := Nat.mul_le_mul_right inner (show o + 1 ≤ outer by omega)
  rw [Nat.add_mul] at this; omega
 have e1 : (o * inner + k) / inner = o := by rw [Nat.mul_comm, Nat.mul_add_div (by omega), Nat.div_eq_of_lt hk]; rfl
 have e2 : (o * inner + k) % inner = k := by rw [Nat.mul_comm, Nat.mul_add_mod, Nat.mod_eq_of_lt hk]
 rw [rowsL, List.getElem?_map, List.getElem?_range hlt]
 show some (lineG 0 l n inner ((o * inner + k) / inner) ((o * inner + k) % inner)) = _
 rw [e1, e2]
theorem rowsL_num {f : Int} {l : List Nat} {outer n inner : Nat} (h : ∀ x ∈ l, Num x) : ∀ r ∈ rowsL l outer n inner, Num (rowN f r).1 := by
 intro r hr
 obtain ⟨q, _, rfl⟩ := List.mem_map.1 hr
 exact rowN_num (lineG_num h)
/-- Rows of no elements, of one element. -/
theorem rowsL_zero (f : Int) (l : List Nat) (outer inner : Nat) : ∀ r ∈ rowsL l outer 0 inner, rowN f r = if (fstart f).2 = true then ((fstart f).1, 0) else (0, 24) := by
 intro r hr
 obtain ⟨q, _, rfl⟩ := List.mem_map.1 hr
 rfl
theorem rowsL_out0 {f : Int} (l : List Nat) (outer inner : Nat) (h : (fstart f).2 = true) : outG (rowN f) (rowsL l outer 0 inner) = List.replicate (outer * inner) (fstart f).1 := by
 refine List.eq_replicate_iff.2 ⟨by rw [outG_len, rowsL_len], ?_⟩
 intro x hx
 obtain ⟨r, hr, rfl⟩ := List.mem_map.1 hx
 rw [rowsL_zero f l outer inner r hr, if_pos h]
theorem rowsL_err0 {f : Int} (l : List Nat) (outer inner : Nat) (h : (fstart f).2 = true) : errG (rowN f) (rowsL l outer 0 inner) = 0 :=
 errG_all fun r hr => by rw [rowsL_zero f l outer inner r hr, if_pos h]
theorem rowsL_one {f : Int} (l : List Nat) (outer inner : Nat) (hl : l.length = outer * inner) : errG (rowN f) (rowsL l outer 1 inner) = 0 ∧ outG (rowN f) (rowsL l outer 1 inner) = l := by
 have hr : rowsL l outer 1 inner = l.map fun x => [x] := by
  apply List.ext_getElem (by rw [rowsL_len, List.length_map, hl])
  intro i h1 h2
  have hi : i < l.length := by rw [List.length_map] at h2; exact h2
  have e : i / inner * inner + i % inner = i := by rw [Nat.mul_comm]; exact Nat.div_add_mod i inner
  simp [rowsL, lineG, e, hi]
 rw [hr]
 refine ⟨errG_all fun r hr => ?_, ?_⟩
 ·obtain ⟨x, _, rfl⟩ := List.mem_map.1 hr; rfl
 ·unfold outG; rw [List.map_map]
  exact (List.map_congr_left fun x _ => rfl).trans (List.map_id l)

/-- What Fold tells: the error; the vector. -/
noncomputable def foE (f : Int) (V : VV) (outer n inner : Nat) : Int :=
 if fknown f = true then (if V.cls = 2 ∨ (V.cls = 1 ∧ n ≠ 1) then 24 else if n = 1 then 0 else if n = 0 ∧ (fstart f).2 = false then 24 else errG (rowN f) (rowsL V.nums outer n inner)) else 1
noncomputable def foV (f : Int) (V : VV) (outer n inner : Nat) : VV :=
 if foE f V outer n inner = 0 then (if n = 1 then V else sqL (outG (rowN f) (rowsL V.nums outer n inner))) else .none
theorem foE_1 {f : Int} {V : VV} {outer n inner : Nat} (h : fknown f = false) : foE f V outer n inner = 1 := by unfold foE; rw [if_neg (by simp [h])]
theorem foE_24 {f : Int} {V : VV} {outer n inner : Nat} (h : fknown f = true) (hc : V.cls = 2 ∨ (V.cls = 1 ∧ n ≠ 1)) : foE f V outer n inner = 24 := by unfold foE; rw [if_pos h, if_pos hc]
theorem foE_one {f : Int} {V : VV} {outer n inner : Nat} (h : fknown f = true) (hc : V.cls ≠ 2) (h1 : n = 1) : foE f V outer n inner = 0 := by unfold foE; rw [if_pos h, if_neg (by omega), if_pos h1]
theorem foE_start {f : Int} {V : VV} {outer n inner : Nat} (h : fknown f = true) (h0 : n = 0) (hs : (fstart f).2 = false) : foE f V outer n inner = 24 := by
 unfold foE; rw [if_pos h]
 split
 ·rfl
 ·rw [if_neg (by omega), if_pos ⟨h0, hs⟩]
theorem foE_num {f : Int} {V : VV} {outer n inner : Nat} (h : fknown f = true) (hc : V.cls = 0) (h1 : n ≠ 1) (hs : ¬ (n = 0 ∧ (fstart f).2 = false)) : foE f V outer n inner = errG (rowN f) (rowsL V.nums outer n inner) := by unfold foE; rw [if_pos h, if_neg (by omega), if_neg h1, if_neg hs]
theorem foV_bad {f : Int} {V : VV} {outer n inner : Nat} (h : foE f V outer n inner ≠ 0) : foV f V outer n inner = .none := if_neg h
theorem foV_one {f : Int} {V : VV} {outer n inner : Nat} (h : foE f V outer n inner = 0) (h1 : n = 1) : foV f V outer n inner = V := by unfold foV; rw [if_pos h, if_pos h1]
theorem foV_num {f : Int} {V : VV} {outer n inner : Nat} (h : foE f V outer n inner = 0) (h1 : n ≠ 1) : foV f V outer n inner = sqL (outG (rowN f) (rowsL V.nums outer n inner)) := by unfold foV; rw [if_pos h, if_neg h1]

/-- Fold of numbers, as the reference tells it. -/
noncomputable def rfE (f : Int) (l : List Nat) (outer n inner : Nat) : Int := if fknown f = true then (if n = 0 ∧ (fstart f).2 = false then 24 else errG (rowN f) (rowsL l outer n inner)) else 1
noncomputable def rfL (f : Int) (l : List Nat) (outer n inner : Nat) : List Nat := if rfE f l outer n inner = 0 then outG (rowN f) (rowsL l outer n inner) else []
theorem fold_meet {f : Int} {V : VV} {outer n inner : Nat} (hc : V.cls = 0) (hl : V.nums.length = outer * n * inner) : foE f V outer n inner = rfE f V.nums outer n inner := by
 unfold rfE
 split
 ·rename_i hk
  by_cases h1 : n = 1
  ·subst h1
   rw [foE_one hk (by omega) rfl, if_neg (by omega), (rowsL_one V.nums outer inner (by rw [hl]; simp)).1]
  ·split
   ·rename_i h; rw [foE_start hk h.1 h.2]
   ·rename_i h; rw [foE_num hk hc h1 h]
 ·rename_i hk; rw [foE_1 (by simpa using hk)]
theorem fold_meetV {f : Int} {V : VV} {outer n inner : Nat} (hok : V.ok) (hn : V.nm) (hc : V.cls = 0) (hl : V.nums.length = outer * n * inner) (hs : outer * inner ≤ 1048576) (he : foE f V outer n inner = 0) :
  (foV f V outer n inner).nums = rfL f V.nums outer n inner ∧ (foV f V outer n inner).ok ∧ (foV f V outer n inner).nm ∧ (n = 1 ∨ (0 < (foV f V outer n inner).kind ∧ (foV f V outer n inner).kind = (foV f V outer n inner).least)) := by
 have hr : rfE f V.nums outer n inner = 0 := by rw [← fold_meet hc hl]; exact he
 have e : rfL f V.nums outer n inner = outG (rowN f) (rowsL V.nums outer n inner) := if_pos hr
 rw [e]
 by_cases h1 : n = 1
 ·rw [foV_one he h1]
  subst h1
  exact ⟨((rowsL_one V.nums outer inner (by rw [hl]; simp)).2).symm, hok, hn, .inl rfl⟩
 ·rw [foV_num he h1]
  obtain ⟨s1, s2, s3, s4, s5, s6, s7⟩ := sqL_spec (l := outG (rowN f) (rowsL V.nums outer n inner)) (by rw [outG_len, rowsL_len]; exact hs) (outG_num (rowsL_num (VV.nums_num hok hn)))
  exact ⟨s1, s2, s3, .inr ⟨s5, s6⟩⟩
end Go.Proofs.YtghojndkcndjbaaGreatDoor

/- Layer 13, walked: the small functions of package fold, One; the reference's Known, flag, One. -/
namespace Go.Proofs.YtghojndkcndjbaaGreatDoor
set_option maxRecDepth 100000
open Go.RowKit Fl
set_option linter.unusedVariables false

theorem foreck_calls (f : Int) (w : World) : Calls Tryz.prog 31 #[.int .i64 f] w fun e w' => e = .returned (.bool (decide (1 ≤ f ∧ f ≤ 8))) ∧ w = w' := by
 by_cases h1 : (1 : Int) ≤ f
 ·by_cases h2 : f ≤ (8 : Int)
  ·have HD := Lib.hid (decide_eq_true (show 1 ≤ f ∧ f ≤ 8 from ⟨h1, h2⟩))
   rw [HD.out]
   go_enter Tryz.func31, Tryz.ntmps31
   go_wp2
   go_ret
   exact ⟨ret_b (by first | rfl | (simp; omega)), rfl⟩
  ·have HD := Lib.hid (decide_eq_false (show ¬ (1 ≤ f ∧ f ≤ 8) from fun h => h2 h.2))
   rw [HD.out]
   go_enter Tryz.func31, Tryz.ntmps31
   go_wp2
   go_ret
   exact ⟨ret_b (by first | rfl | (simp; omega)), rfl⟩
 ·have HD := Lib.hid (decide_eq_false (show ¬ (1 ≤ f ∧ f ≤ 8) from fun h => h1 h.1))
  rw [HD.out]
  go_enter Tryz.func31, Tryz.ntmps31
  go_wp2
  go_ret
  exact ⟨ret_b (by first | rfl | (simp; omega)), rfl⟩
theorem forel_calls (f : Int) (w : World) : Calls Tryz.prog 32 #[.int .i64 f] w fun e w' => e = .returned (.bool (decide (11 ≤ f ∧ f ≤ 16))) ∧ w = w' := by
 by_cases h1 : (11 : Int) ≤ f
 ·by_cases h2 : f ≤ (16 : Int)
  ·have HD := Lib.hid (decide_eq_true (show 11 ≤ f ∧ f ≤ 16 from ⟨h1, h2⟩))
   rw [HD.out]
   go_enter Tryz.func32, Tryz.ntmps32
   go_wp2
   go_ret
   exact ⟨ret_b (by first | rfl | (simp; omega)), rfl⟩
  ·have HD := Lib.hid (decide_eq_false (show ¬ (11 ≤ f ∧ f ≤ 16) from fun h => h2 h.2))
   rw [HD.out]
   go_enter Tryz.func32, Tryz.ntmps32
   go_wp2
   go_ret
   exact ⟨ret_b (by first | rfl | (simp; omega)), rfl⟩
 ·have HD := Lib.hid (decide_eq_false (show ¬ (11 ≤ f ∧ f ≤ 16) from fun h => h1 h.1))
  rw [HD.out]
  go_enter Tryz.func32, Tryz.ntmps32
  go_wp2
  go_ret
  exact ⟨ret_b (by first | rfl | (simp; omega)), rfl⟩
theorem fojud_calls (f : Int) (w : World) : Calls Tryz.prog 33 #[.int .i64 f] w fun e w' => e = .returned (.bool (decide (21 ≤ f ∧ f ≤ 24))) ∧ w = w' := by
 by_cases h1 : (21 : Int) ≤ f
 ·by_cases h2 : f ≤ (24 : Int)
  ·have HD := Lib.hid (decide_eq_true (show 21 ≤ f ∧ f ≤ 24 from ⟨h1, h2⟩))
   rw [HD.out]
   go_enter Tryz.func33, Tryz.ntmps33
   go_wp2
   go_ret
   exact ⟨ret_b (by first | rfl | (simp; omega)), rfl⟩
  ·have HD := Lib.hid (decide_eq_false (show ¬ (21 ≤ f ∧ f ≤ 24) from fun h => h2 h.2))
   rw [HD.out]
   go_enter Tryz.func33, Tryz.ntmps33
   go_wp2
   go_ret
   exact ⟨ret_b (by first | rfl | (simp; omega)), rfl⟩
 ·have HD := Lib.hid (decide_eq_false (show ¬ (21 ≤ f ∧ f ≤ 24) from fun h => h1 h.1))
  rw [HD.out]
  go_enter Tryz.func33, Tryz.ntmps33
  go_wp2
  go_ret
  exact ⟨ret_b (by first | rfl | (simp; omega)), rfl⟩
theorem dec3 {f : Int} (h : fknown f = false) : decide (1 ≤ f ∧ f ≤ 8) = false ∧ decide (11 ≤ f ∧ f ≤ 16) = false ∧ decide (21 ≤ f ∧ f ≤ 24) = false := by
 obtain ⟨h1, h2, h3⟩ := fknown_no h
 exact ⟨decide_eq_false h1, decide_eq_false h2, decide_eq_false h3⟩
theorem foknown_calls (f : Int) (w : World) : Calls Tryz.prog 11 #[.int .i64 f] w fun e w' => e = .returned (.bool (fknown f)) ∧ w = w' := by
 by_cases hk : fknown f = true
 ·rcases fknown_cases hk with h | h | h
  ·have D1 := Lib.hid (show decide (1 ≤ f ∧ f ≤ 8) = true from decide_eq_true h)
   have D2 := Lib.hid (show decide (11 ≤ f ∧ f ≤ 16) = false from decide_eq_false (by omega))
   have D3 := Lib.hid (show decide (21 ≤ f ∧ f ≤ 24) = false from decide_eq_false (by omega))
   have HK := Lib.hid hk; rw [hk]; clear hk h
   go_enter Tryz.func11, Tryz.ntmps11
   go_wp2_with (first | ((with_reducible refine (foreck_calls _ _).mono ?_); rintro e w' ⟨rfl, rfl⟩; rw [D1.out]) | ((with_reducible refine (forel_calls _ _).mono ?_); rintro e w' ⟨rfl, rfl⟩; rw [D2.out]) | ((with_reducible refine (fojud_calls _ _).mono ?_); rintro e w' ⟨rfl, rfl⟩; rw [D3.out]))
   go_ret
   exact ⟨rfl, rfl⟩
  ·have D1 := Lib.hid (show decide (1 ≤ f ∧ f ≤ 8) = false from decide_eq_false (by omega))
   have D2 := Lib.hid (show decide (11 ≤ f ∧ f ≤ 16) = true from decide_eq_true h)
   have D3 := Lib.hid (show decide (21 ≤ f ∧ f ≤ 24) = false from decide_eq_false (by omega))
   have HK := Lib.hid hk; rw [hk]; clear hk h
   go_enter Tryz.func11, Tryz.ntmps11
   go_wp2_with (first | ((with_reducible refine (foreck_calls _ _).mono ?_); rintro e w' ⟨rfl, rfl⟩; rw [D1.out]) | ((with_reducible refine (forel_calls _ _).mono ?_); rintro e w' ⟨rfl, rfl⟩; rw [D2.out]) | ((with_reducible refine (fojud_calls _ _).mono ?_); rintro e w' ⟨rfl, rfl⟩; rw [D3.out]))
   go_ret
   exact ⟨rfl, rfl⟩
  ·have D1 := Lib.hid (show decide (1 ≤ f ∧ f ≤ 8) = false from decide_eq_false (by omega))
   have D2 := Lib.hid (show decide (11 ≤ f ∧ f ≤ 16) = false from decide_eq_false (by omega))
   have D3 := Lib.hid (show decide (21 ≤ f ∧ f ≤ 24) = true from decide_eq_true h)
   have HK := Lib.hid hk; rw [hk]; clear hk h
   go_enter Tryz.func11, Tryz.ntmps11
   go_wp2_with (first | ((with_reducible refine (foreck_calls _ _).mono ?_); rintro e w' ⟨rfl, rfl⟩; rw [D1.out]) | ((with_reducible refine (forel_calls _ _).mono ?_); rintro e w' ⟨rfl, rfl⟩; rw [D2.out]) | ((with_reducible refine (fojud_calls _ _).mono ?_); rintro e w' ⟨rfl, rfl⟩; rw [D3.out]))
   go_ret
   exact ⟨rfl, rfl⟩
 ·have hk : fknown f = false := by simpa using hk
  obtain ⟨h1, h2, h3⟩ := dec3 hk
  have D1 := Lib.hid h1; have D2 := Lib.hid h2; have D3 := Lib.hid h3; rw [hk]; clear hk h1 h2 h3
  go_enter Tryz.func11, Tryz.ntmps11
  go_wp2_with (first | ((with_reducible refine (foreck_calls _ _).mono ?_); rintro e w' ⟨rfl, rfl⟩; rw [D1.out]) | ((with_reducible refine (forel_calls _ _).mono ?_); rintro e w' ⟨rfl, rfl⟩; rw [D2.out]) | ((with_reducible refine (fojud_calls _ _).mono ?_); rintro e w' ⟨rfl, rfl⟩; rw [D3.out]))
  go_ret
  exact ⟨rfl, rfl⟩
theorem truth_is (x : Nat) (w : World) (h : Fnt x) : Calls Tryz.prog 74 #[.float .f64 x] w fun e w' => e = .returned (.tuple #[.bool (bitW x), .bool (isT x)]) ∧ w = w' := truth_calls x w h
theorem flag_is (b : Bool) (w : World) : Calls Tryz.prog 36 #[.bool b] w fun e w' => e = .returned (.float .f64 (flagW b)) ∧ w = w' := flag_calls b w
theorem fotr_calls (f : Int) (a b : Nat) (w : World) (hf : 21 ≤ f ∧ f ≤ 24) (ha : Fnt a) (hb : Fnt b) : Calls Tryz.prog 37 #[.int .i64 f, .float .f64 a, .float .f64 b] w fun e w' => e = .returned (.tuple #[.float .f64 (fone f a b).1, .int .i64 (fone f a b).2]) ∧ w = w' := by
 have HA := Lib.hid ha; have HB := Lib.hid hb
 have HG := Lib.hid (show logE f = 0 from if_pos hf)
 cases h1 : isT a <;> cases h2 : isT b
 ·have HE := Lib.hid (show fone f a b = (0, 24) from fone_l24 hf (by simp [h1, h2]))
  have H1 := Lib.hid h1; have H2 := Lib.hid h2; rw [HE.out]; clear hf ha hb h1 h2
  go_enter Tryz.func37, Tryz.ntmps37
  go_wp2_with (first | ((with_reducible refine (truth_is a _ HA.out).mono ?_); rintro e w' ⟨rfl, rfl⟩; rw [H1.out]) | ((with_reducible refine (truth_is b _ HB.out).mono ?_); rintro e w' ⟨rfl, rfl⟩; rw [H2.out]) | ((with_reducible refine (loone_calls _ _ _ _).mono ?_); rintro e w' ⟨rfl, rfl⟩; rw [HG.out]) | ((with_reducible refine (flag_is _ _).mono ?_); rintro e w' ⟨rfl, rfl⟩))
  go_ret2
  exact ⟨rfl, rfl⟩
 ·have HE := Lib.hid (show fone f a b = (0, 24) from fone_l24 hf (by simp [h1, h2]))
  have H1 := Lib.hid h1; have H2 := Lib.hid h2; rw [HE.out]; clear hf ha hb h1 h2
  go_enter Tryz.func37, Tryz.ntmps37
  go_wp2_with (first | ((with_reducible refine (truth_is a _ HA.out).mono ?_); rintro e w' ⟨rfl, rfl⟩; rw [H1.out]) | ((with_reducible refine (truth_is b _ HB.out).mono ?_); rintro e w' ⟨rfl, rfl⟩; rw [H2.out]) | ((with_reducible refine (loone_calls _ _ _ _).mono ?_); rintro e w' ⟨rfl, rfl⟩; rw [HG.out]) | ((with_reducible refine (flag_is _ _).mono ?_); rintro e w' ⟨rfl, rfl⟩))
  go_ret2
  exact ⟨rfl, rfl⟩
 ·have HE := Lib.hid (show fone f a b = (0, 24) from fone_l24 hf (by simp [h1, h2]))
  have H1 := Lib.hid h1; have H2 := Lib.hid h2; rw [HE.out]; clear hf ha hb h1 h2
  go_enter Tryz.func37, Tryz.ntmps37
  go_wp2_with (first | ((with_reducible refine (truth_is a _ HA.out).mono ?_); rintro e w' ⟨rfl, rfl⟩; rw [H1.out]) | ((with_reducible refine (truth_is b _ HB.out).mono ?_); rintro e w' ⟨rfl, rfl⟩; rw [H2.out]) | ((with_reducible refine (loone_calls _ _ _ _).mono ?_); rintro e w' ⟨rfl, rfl⟩; rw [HG.out]) | ((with_reducible refine (flag_is _ _).mono ?_); rintro e w' ⟨rfl, rfl⟩))
  go_ret2
  exact ⟨rfl, rfl⟩
 ·have HE := Lib.hid (show fone f a b = (flagW (logB f (bitW a) (bitW b)), 0) from fone_l hf h1 h2)
  have H1 := Lib.hid h1; have H2 := Lib.hid h2; rw [HE.out]; clear hf ha hb h1 h2
  go_enter Tryz.func37, Tryz.ntmps37
  go_wp2_with (first | ((with_reducible refine (truth_is a _ HA.out).mono ?_); rintro e w' ⟨rfl, rfl⟩; rw [H1.out]) | ((with_reducible refine (truth_is b _ HB.out).mono ?_); rintro e w' ⟨rfl, rfl⟩; rw [H2.out]) | ((with_reducible refine (loone_calls _ _ _ _).mono ?_); rintro e w' ⟨rfl, rfl⟩; rw [HG.out]) | ((with_reducible refine (flag_is _ _).mono ?_); rintro e w' ⟨rfl, rfl⟩))
  go_ret2
  exact ⟨rfl, rfl⟩
set_option maxHeartbeats 4000000 in
theorem foone_calls (f : Int) (a b : Nat) (w : World) (ha : Num a) (hb : Num b) : Calls Tryz.prog 14 #[.int .i64 f, .float .f64 a, .float .f64 b] w (Pwd (fone f a b) w) := by
 have HA := Lib.hid ha; have HB := Lib.hid hb; have FA := Lib.hid ha.1; have FB := Lib.hid hb.1
 by_cases hk : fknown f = true
 ·rcases fknown_cases hk with h | h | h
  ·have D1 := Lib.hid (show decide (1 ≤ f ∧ f ≤ 8) = true from decide_eq_true h)
   have D2 := Lib.hid (show decide (11 ≤ f ∧ f ≤ 16) = false from decide_eq_false (by omega))
   have D3 := Lib.hid (show decide (21 ≤ f ∧ f ≤ 24) = false from decide_eq_false (by omega))
   have HE := Lib.hid (fone_a a b h)
   rw [HE.out]; clear hk h ha hb
   go_enter Tryz.func14, Tryz.ntmps14
   go_wp2_with (first | (first | ((with_reducible refine (foreck_calls _ _).mono ?_); rintro e w' ⟨rfl, rfl⟩; rw [D1.out]) | ((with_reducible refine (forel_calls _ _).mono ?_); rintro e w' ⟨rfl, rfl⟩; rw [D2.out]) | ((with_reducible refine (fojud_calls _ _).mono ?_); rintro e w' ⟨rfl, rfl⟩; rw [D3.out])) | ((with_reducible refine (aone_calls _ _ _ _ HA.out HB.out).mono ?_); rintro e w' ⟨rfl, m, rfl⟩))
   go_ret2
   exact ⟨rfl, m, rfl⟩
  ·have D1 := Lib.hid (show decide (1 ≤ f ∧ f ≤ 8) = false from decide_eq_false (by omega))
   have D2 := Lib.hid (show decide (11 ≤ f ∧ f ≤ 16) = true from decide_eq_true h)
   have D3 := Lib.hid (show decide (21 ≤ f ∧ f ≤ 24) = false from decide_eq_false (by omega))
   have HE := Lib.hid (fone_r a b h)
   have HG := Lib.hid (show relE f = 0 from if_pos h)
   rw [HE.out]; clear hk h ha hb
   go_enter Tryz.func14, Tryz.ntmps14
   go_wp2_with (first | (first | ((with_reducible refine (foreck_calls _ _).mono ?_); rintro e w' ⟨rfl, rfl⟩; rw [D1.out]) | ((with_reducible refine (forel_calls _ _).mono ?_); rintro e w' ⟨rfl, rfl⟩; rw [D2.out]) | ((with_reducible refine (fojud_calls _ _).mono ?_); rintro e w' ⟨rfl, rfl⟩; rw [D3.out])) | ((with_reducible refine (reone_calls _ _ _ _ FA.out FB.out).mono ?_); rintro e w' ⟨rfl, rfl⟩; rw [HG.out]) | ((with_reducible refine (flag_is _ _).mono ?_); rintro e w' ⟨rfl, rfl⟩))
   go_ret2
   exact ⟨rfl, 0, rfl⟩
  ·have D1 := Lib.hid (show decide (1 ≤ f ∧ f ≤ 8) = false from decide_eq_false (by omega))
   have D2 := Lib.hid (show decide (11 ≤ f ∧ f ≤ 16) = false from decide_eq_false (by omega))
   have D3 := Lib.hid (show decide (21 ≤ f ∧ f ≤ 24) = true from decide_eq_true h)
   have HF := Lib.hid h; clear hk h ha hb
   go_enter Tryz.func14, Tryz.ntmps14
   go_wp2_with (first | (first | ((with_reducible refine (foreck_calls _ _).mono ?_); rintro e w' ⟨rfl, rfl⟩; rw [D1.out]) | ((with_reducible refine (forel_calls _ _).mono ?_); rintro e w' ⟨rfl, rfl⟩; rw [D2.out]) | ((with_reducible refine (fojud_calls _ _).mono ?_); rintro e w' ⟨rfl, rfl⟩; rw [D3.out])) | ((with_reducible refine (fotr_calls _ _ _ _ HF.out FA.out FB.out).mono ?_); rintro e w' ⟨rfl, rfl⟩))
   go_ret2
   exact ⟨rfl, 0, rfl⟩
 ·have hk : fknown f = false := by simpa using hk
  obtain ⟨h1, h2, h3⟩ := dec3 hk
  have D1 := Lib.hid h1; have D2 := Lib.hid h2; have D3 := Lib.hid h3
  rw [fone_no a b hk]
  clear hk h1 h2 h3 ha hb
  go_enter Tryz.func14, Tryz.ntmps14
  go_wp2_with (first | ((with_reducible refine (foreck_calls _ _).mono ?_); rintro e w' ⟨rfl, rfl⟩; rw [D1.out]) | ((with_reducible refine (forel_calls _ _).mono ?_); rintro e w' ⟨rfl, rfl⟩; rw [D2.out]) | ((with_reducible refine (fojud_calls _ _).mono ?_); rintro e w' ⟨rfl, rfl⟩; rw [D3.out]))
  go_ret2
  exact ⟨rfl, 0, rfl⟩
theorem foall_calls (c n : Int) (w : World) : Calls Tryz.prog 51 #[.int .i64 c, .int .i64 n] w fun e w' => e = .returned (.bool (decide (c = 0 ∨ (c = 1 ∧ n = 1)))) ∧ w = w' := by
 by_cases h0 : c = 0
 ·have HD := Lib.hid (decide_eq_true (show c = 0 ∨ (c = 1 ∧ n = 1) from .inl h0))
  have hb : (c == 0) = true := by simp [h0]
  rw [HD.out]; clear h0
  go_enter Tryz.func51, Tryz.ntmps51
  go_wp2
  go_ret
  exact ⟨ret_b (by first | rfl | simp), rfl⟩
 ·have hb : (c == 0) = false := by simp [h0]
  by_cases h1 : c = 1
  ·have hb1 : (c == 1) = true := by simp [h1]
   by_cases h2 : n = 1
   ·have HD := Lib.hid (decide_eq_true (show c = 0 ∨ (c = 1 ∧ n = 1) from .inr ⟨h1, h2⟩))
    have hb2 : (n == 1) = true := by simp [h2]
    rw [HD.out]; clear h0 h1 h2
    go_enter Tryz.func51, Tryz.ntmps51
    go_wp2
    go_ret
    exact ⟨ret_b (by first | rfl | simp), rfl⟩
   ·have HD := Lib.hid (decide_eq_false (show ¬ (c = 0 ∨ (c = 1 ∧ n = 1)) by omega))
    have hb2 : (n == 1) = false := by simp [h2]
    rw [HD.out]; clear h0 h1 h2
    go_enter Tryz.func51, Tryz.ntmps51
    go_wp2
    go_ret
    exact ⟨ret_b (by first | rfl | simp), rfl⟩
  ·have HD := Lib.hid (decide_eq_false (show ¬ (c = 0 ∨ (c = 1 ∧ n = 1)) by omega))
   have hb1 : (c == 1) = false := by simp [h1]
   rw [HD.out]; clear h0 h1
   go_enter Tryz.func51, Tryz.ntmps51
   go_wp2
   go_ret
   exact ⟨ret_b (by first | rfl | simp), rfl⟩
theorem fparts (f : Int) : (f < 1) ∨ (1 ≤ f ∧ f ≤ 8) ∨ (8 < f ∧ f < 11) ∨ (11 ≤ f ∧ f ≤ 16) ∨ (16 < f ∧ f < 21) ∨ (21 ≤ f ∧ f ≤ 24) ∨ (24 < f) := by omega
theorem rfknown_calls (f : Int) (w : World) : Calls Tryz.prog 12 #[.int .i64 f] w fun e w' => e = .returned (.bool (fknown f)) ∧ w = w' := by
 rcases fparts f with h | h | h | h | h | h | h
 ·have HD := Lib.hid (show fknown f = false by simp [fknown]; omega)
  rw [HD.out]
  have h0 : ¬ 1 ≤ f := by omega
  have h1 : f ≤ 8 := by omega
  have h2 : ¬ 11 ≤ f := by omega
  have h3 : f ≤ 16 := by omega
  have h4 : ¬ 21 ≤ f := by omega
  have h5 : f ≤ 24 := by omega
  clear h
  go_enter Tryz.func12, Tryz.ntmps12
  go_wp2
  go_ret
  exact ⟨ret_b (by first | rfl | (simp; done) | (simp; omega)), rfl⟩
 ·have HD := Lib.hid (show fknown f = true by simp [fknown]; omega)
  rw [HD.out]
  have h0 : 1 ≤ f := by omega
  have h1 : f ≤ 8 := by omega
  have h2 : ¬ 11 ≤ f := by omega
  have h3 : f ≤ 16 := by omega
  have h4 : ¬ 21 ≤ f := by omega
  have h5 : f ≤ 24 := by omega
  clear h
  go_enter Tryz.func12, Tryz.ntmps12
  go_wp2
  go_ret
  exact ⟨ret_b (by first | rfl | (simp; done) | (simp; omega)), rfl⟩
 ·have HD := Lib.hid (show fknown f = false by simp [fknown]; omega)
  rw [HD.out]
  have h0 : 1 ≤ f := by omega
  have h1 : ¬ f ≤ 8 := by omega
  have h2 : ¬ 11 ≤ f := by omega
  have h3 : f ≤ 16 := by omega
  have h4 : ¬ 21 ≤ f := by omega
  have h5 : f ≤ 24 := by omega
  clear h
  go_enter Tryz.func12, Tryz.ntmps12
  go_wp2
  go_ret
  exact ⟨ret_b (by first | rfl | (simp; done) | (simp; omega)), rfl⟩
 ·have HD := Lib.hid (show fknown f = true by simp [fknown]; omega)
  rw [HD.out]
  have h0 : 1 ≤ f := by omega
  have h1 : ¬ f ≤ 8 := by omega
  have h2 : 11 ≤ f := by omega
  have h3 : f ≤ 16 := by omega
  have h4 : ¬ 21 ≤ f := by omega
  have h5 : f ≤ 24 := by omega
  clear h
  go_enter Tryz.func12, Tryz.ntmps12
  go_wp2
  go_ret
  exact ⟨ret_b (by first | rfl | (simp; done) | (simp; omega)), rfl⟩
 ·have HD := Lib.hid (show fknown f = false by simp [fknown]; omega)
  rw [HD.out]
  have h0 : 1 ≤ f := by omega
  have h1 : ¬ f ≤ 8 := by omega
  have h2 : 11 ≤ f := by omega
  have h3 : ¬ f ≤ 16 := by omega
  have h4 : ¬ 21 ≤ f := by omega
  have h5 : f ≤ 24 := by omega
  clear h
  go_enter Tryz.func12, Tryz.ntmps12
  go_wp2
  go_ret
  exact ⟨ret_b (by first | rfl | (simp; done) | (simp; omega)), rfl⟩
 ·have HD := Lib.hid (show fknown f = true by simp [fknown]; omega)
  rw [HD.out]
  have h0 : 1 ≤ f := by omega
  have h1 : ¬ f ≤ 8 := by omega
  have h2 : 11 ≤ f := by omega
  have h3 : ¬ f ≤ 16 := by omega
  have h4 : 21 ≤ f := by omega
  have h5 : f ≤ 24 := by omega
  clear h
  go_enter Tryz.func12, Tryz.ntmps12
  go_wp2
  go_ret
  exact ⟨ret_b (by first | rfl | (simp; done) | (simp; omega)), rfl⟩
 ·have HD := Lib.hid (show fknown f = false by simp [fknown]; omega)
  rw [HD.out]
  have h0 : 1 ≤ f := by omega
  have h1 : ¬ f ≤ 8 := by omega
  have h2 : 11 ≤ f := by omega
  have h3 : ¬ f ≤ 16 := by omega
  have h4 : 21 ≤ f := by omega
  have h5 : ¬ f ≤ 24 := by omega
  clear h
  go_enter Tryz.func12, Tryz.ntmps12
  go_wp2
  go_ret
  exact ⟨ret_b (by first | rfl | (simp; done) | (simp; omega)), rfl⟩
theorem rfflag_calls (b : Bool) (w : World) : Calls Tryz.prog 40 #[.bool b] w fun e w' => e = .returned (.float .f64 (flagW b)) ∧ w = w' := by
 cases b
 all_goals
  go_enter Tryz.func40, Tryz.ntmps40
  go_wp2
  go_ret
  exact ⟨rfl, rfl⟩
end Go.Proofs.YtghojndkcndjbaaGreatDoor

/- Layer 13, walked: the reference's One; Start of both. -/
namespace Go.Proofs.YtghojndkcndjbaaGreatDoor
set_option maxRecDepth 100000
open Go.RowKit Fl
set_option linter.unusedVariables false

set_option maxHeartbeats 16000000 in
theorem rfone_calls (f : Int) (a b : Nat) (w : World) (ha : Num a) (hb : Num b) : Calls Tryz.prog 15 #[.int .i64 f, .float .f64 a, .float .f64 b] w (Pwd (fone f a b) w) := by
 have HA := Lib.hid ha; have HB := Lib.hid hb; have FA := Lib.hid ha.1; have FB := Lib.hid hb.1
 by_cases hk : fknown f = true
 ·have HK := Lib.hid hk
  rcases fknown_cases hk with h | h | h
  ·have HE := Lib.hid (fone_a a b h)
   have h8 : f ≤ 8 := h.2
   rw [HE.out]; clear hk h ha hb
   go_enter Tryz.func15, Tryz.ntmps15
   go_wp2_with (first | ((with_reducible refine (rfknown_calls _ _).mono ?_); rintro e w' ⟨rfl, rfl⟩; rw [HK.out]) | ((with_reducible refine (raone_calls _ _ _ _ HA.out HB.out).mono ?_); rintro e w' ⟨rfl, m, rfl⟩))
   go_ret2
   exact ⟨rfl, m, rfl⟩
  ·have HE := Lib.hid (fone_r a b h)
   have HG := Lib.hid (show relE f = 0 from if_pos h)
   have h8 : ¬ f ≤ 8 := by omega
   have h16 : f ≤ 16 := h.2
   rw [HE.out]; clear hk h ha hb
   go_enter Tryz.func15, Tryz.ntmps15
   go_wp2_with (first | ((with_reducible refine (rfknown_calls _ _).mono ?_); rintro e w' ⟨rfl, rfl⟩; rw [HK.out]) | ((with_reducible refine (rrone_calls _ _ _ _ FA.out FB.out).mono ?_); rintro e w' ⟨rfl, rfl⟩) | ((with_reducible refine (rfflag_calls _ _).mono ?_); rintro e w' ⟨rfl, rfl⟩))
   go_ret2
   exact ⟨rfl, 0, rfl⟩
  ·have h8 : ¬ f ≤ 8 := by omega
   have h16 : ¬ f ≤ 16 := by omega
   have HF := Lib.hid h
   rcases tr_parts ha.1 with ⟨h1, ⟨k1, o1, q1⟩ | ⟨k1, o1, q1⟩⟩ | ⟨h1, ⟨o1, q1⟩ | ⟨o1, q1⟩ | ⟨o1, q1⟩⟩
   ·rcases tr_parts hb.1 with ⟨h2, ⟨k2, o2, q2⟩ | ⟨k2, o2, q2⟩⟩ | ⟨h2, ⟨o2, q2⟩ | ⟨o2, q2⟩ | ⟨o2, q2⟩⟩
    ·have K3 := Lib.hid (show logB f true true = logB f (bitW a) (bitW b) by rw [k1, k2])
     have HE := Lib.hid (fone_l h h1 h2)
     rw [HE.out]; clear hk h ha hb h1 h2 k1 k2
     go_enter Tryz.func15, Tryz.ntmps15
     go_wp2_with (first | ((with_reducible refine (rfknown_calls _ _).mono ?_); rintro e w' ⟨rfl, rfl⟩; rw [HK.out]) | ((with_reducible refine (rlone_calls _ _ _ _).mono ?_); rintro e w' ⟨rfl, rfl⟩; rw [K3.out]) | ((with_reducible refine (rfflag_calls _ _).mono ?_); rintro e w' ⟨rfl, rfl⟩))
     go_ret2
     exact ⟨rfl, 0, rfl⟩
    ·have K3 := Lib.hid (show logB f true false = logB f (bitW a) (bitW b) by rw [k1, k2])
     have HE := Lib.hid (fone_l h h1 h2)
     rw [HE.out]; clear hk h ha hb h1 h2 k1 k2
     go_enter Tryz.func15, Tryz.ntmps15
     go_wp2_with (first | ((with_reducible refine (rfknown_calls _ _).mono ?_); rintro e w' ⟨rfl, rfl⟩; rw [HK.out]) | ((with_reducible refine (rlone_calls _ _ _ _).mono ?_); rintro e w' ⟨rfl, rfl⟩; rw [K3.out]) | ((with_reducible refine (rfflag_calls _ _).mono ?_); rintro e w' ⟨rfl, rfl⟩))
     go_ret2
     exact ⟨rfl, 0, rfl⟩
    ·have HE := Lib.hid (show fone f a b = (0, 24) from fone_l24 h (by simp [h1, h2]))
     rw [HE.out]; clear hk h ha hb h1 h2 k1
     go_enter Tryz.func15, Tryz.ntmps15
     go_wp2_with ((with_reducible refine (rfknown_calls _ _).mono ?_); rintro e w' ⟨rfl, rfl⟩; rw [HK.out])
     go_ret2
     exact ⟨rfl, 0, rfl⟩
    ·have HE := Lib.hid (show fone f a b = (0, 24) from fone_l24 h (by simp [h1, h2]))
     rw [HE.out]; clear hk h ha hb h1 h2 k1
     go_enter Tryz.func15, Tryz.ntmps15
     go_wp2_with ((with_reducible refine (rfknown_calls _ _).mono ?_); rintro e w' ⟨rfl, rfl⟩; rw [HK.out])
     go_ret2
     exact ⟨rfl, 0, rfl⟩
    ·have HE := Lib.hid (show fone f a b = (0, 24) from fone_l24 h (by simp [h1, h2]))
     rw [HE.out]; clear hk h ha hb h1 h2 k1
     go_enter Tryz.func15, Tryz.ntmps15
     go_wp2_with ((with_reducible refine (rfknown_calls _ _).mono ?_); rintro e w' ⟨rfl, rfl⟩; rw [HK.out])
     go_ret2
     exact ⟨rfl, 0, rfl⟩
   ·rcases tr_parts hb.1 with ⟨h2, ⟨k2, o2, q2⟩ | ⟨k2, o2, q2⟩⟩ | ⟨h2, ⟨o2, q2⟩ | ⟨o2, q2⟩ | ⟨o2, q2⟩⟩
    ·have K3 := Lib.hid (show logB f false true = logB f (bitW a) (bitW b) by rw [k1, k2])
     have HE := Lib.hid (fone_l h h1 h2)
     rw [HE.out]; clear hk h ha hb h1 h2 k1 k2
     go_enter Tryz.func15, Tryz.ntmps15
     go_wp2_with (first | ((with_reducible refine (rfknown_calls _ _).mono ?_); rintro e w' ⟨rfl, rfl⟩; rw [HK.out]) | ((with_reducible refine (rlone_calls _ _ _ _).mono ?_); rintro e w' ⟨rfl, rfl⟩; rw [K3.out]) | ((with_reducible refine (rfflag_calls _ _).mono ?_); rintro e w' ⟨rfl, rfl⟩))
     go_ret2
     exact ⟨rfl, 0, rfl⟩
    ·have K3 := Lib.hid (show logB f false false = logB f (bitW a) (bitW b) by rw [k1, k2])
     have HE := Lib.hid (fone_l h h1 h2)
     rw [HE.out]; clear hk h ha hb h1 h2 k1 k2
     go_enter Tryz.func15, Tryz.ntmps15
     go_wp2_with (first | ((with_reducible refine (rfknown_calls _ _).mono ?_); rintro e w' ⟨rfl, rfl⟩; rw [HK.out]) | ((with_reducible refine (rlone_calls _ _ _ _).mono ?_); rintro e w' ⟨rfl, rfl⟩; rw [K3.out]) | ((with_reducible refine (rfflag_calls _ _).mono ?_); rintro e w' ⟨rfl, rfl⟩))
     go_ret2
     exact ⟨rfl, 0, rfl⟩
    ·have HE := Lib.hid (show fone f a b = (0, 24) from fone_l24 h (by simp [h1, h2]))
     rw [HE.out]; clear hk h ha hb h1 h2 k1
     go_enter Tryz.func15, Tryz.ntmps15
     go_wp2_with ((with_reducible refine (rfknown_calls _ _).mono ?_); rintro e w' ⟨rfl, rfl⟩; rw [HK.out])
     go_ret2
     exact ⟨rfl, 0, rfl⟩
    ·have HE := Lib.hid (show fone f a b = (0, 24) from fone_l24 h (by simp [h1, h2]))
     rw [HE.out]; clear hk h ha hb h1 h2 k1
     go_enter Tryz.func15, Tryz.ntmps15
     go_wp2_with ((with_reducible refine (rfknown_calls _ _).mono ?_); rintro e w' ⟨rfl, rfl⟩; rw [HK.out])
     go_ret2
     exact ⟨rfl, 0, rfl⟩
    ·have HE := Lib.hid (show fone f a b = (0, 24) from fone_l24 h (by simp [h1, h2]))
     rw [HE.out]; clear hk h ha hb h1 h2 k1
     go_enter Tryz.func15, Tryz.ntmps15
     go_wp2_with ((with_reducible refine (rfknown_calls _ _).mono ?_); rintro e w' ⟨rfl, rfl⟩; rw [HK.out])
     go_ret2
     exact ⟨rfl, 0, rfl⟩
   ·have HE := Lib.hid (show fone f a b = (0, 24) from fone_l24 h (by simp [h1]))
    rw [HE.out]; clear hk h ha hb h1
    go_enter Tryz.func15, Tryz.ntmps15
    go_wp2_with ((with_reducible refine (rfknown_calls _ _).mono ?_); rintro e w' ⟨rfl, rfl⟩; rw [HK.out])
    go_ret2
    exact ⟨rfl, 0, rfl⟩
   ·have HE := Lib.hid (show fone f a b = (0, 24) from fone_l24 h (by simp [h1]))
    rw [HE.out]; clear hk h ha hb h1
    go_enter Tryz.func15, Tryz.ntmps15
    go_wp2_with ((with_reducible refine (rfknown_calls _ _).mono ?_); rintro e w' ⟨rfl, rfl⟩; rw [HK.out])
    go_ret2
    exact ⟨rfl, 0, rfl⟩
   ·have HE := Lib.hid (show fone f a b = (0, 24) from fone_l24 h (by simp [h1]))
    rw [HE.out]; clear hk h ha hb h1
    go_enter Tryz.func15, Tryz.ntmps15
    go_wp2_with ((with_reducible refine (rfknown_calls _ _).mono ?_); rintro e w' ⟨rfl, rfl⟩; rw [HK.out])
    go_ret2
    exact ⟨rfl, 0, rfl⟩
 ·have hk : fknown f = false := by simpa using hk
  have HK := Lib.hid hk
  rw [fone_no a b hk]
  clear hk ha hb
  go_enter Tryz.func15, Tryz.ntmps15
  go_wp2_with ((with_reducible refine (rfknown_calls _ _).mono ?_); rintro e w' ⟨rfl, rfl⟩; rw [HK.out])
  go_ret2
  exact ⟨rfl, 0, rfl⟩
theorem fstart_cases (f : Int) : f = 1 ∨ f = 2 ∨ f = 3 ∨ f = 4 ∨ f = 5 ∨ f = 6 ∨ f = 7 ∨ f = 8 ∨ f = 11 ∨ f = 12 ∨ f = 13 ∨ f = 14 ∨ f = 15 ∨ f = 16 ∨ f = 21 ∨ f = 22 ∨ (f ≠ 1 ∧ f ≠ 2 ∧ f ≠ 3 ∧ f ≠ 4 ∧ f ≠ 5 ∧ f ≠ 6 ∧ f ≠ 7 ∧ f ≠ 8 ∧ f ≠ 11 ∧ f ≠ 12 ∧ f ≠ 13 ∧ f ≠ 14 ∧ f ≠ 15 ∧ f ≠ 16 ∧ f ≠ 21 ∧ f ≠ 22) := by omega
theorem fostart_calls (f : Int) (w : World) : Calls Tryz.prog 7 #[.int .i64 f] w fun e w' => e = .returned (.tuple #[.float .f64 (fstart f).1, .bool (fstart f).2]) ∧ w = w' := by
 rcases fstart_cases f with rfl | rfl | rfl | rfl | rfl | rfl | rfl | rfl | rfl | rfl | rfl | rfl | rfl | rfl | rfl | rfl | ⟨n1, n2, n3, n4, n5, n6, n7, n8, n11, n12, n13, n14, n15, n16, n21, n22⟩
 ·go_enter Tryz.func7, Tryz.ntmps7
  go_wp2
  go_ret2
  exact ⟨rfl, rfl⟩
 ·go_enter Tryz.func7, Tryz.ntmps7
  go_wp2
  go_ret2
  exact ⟨rfl, rfl⟩
 ·go_enter Tryz.func7, Tryz.ntmps7
  go_wp2
  go_ret2
  exact ⟨rfl, rfl⟩
 ·go_enter Tryz.func7, Tryz.ntmps7
  go_wp2
  go_ret2
  exact ⟨rfl, rfl⟩
 ·go_enter Tryz.func7, Tryz.ntmps7
  go_wp2
  go_ret2
  exact ⟨rfl, rfl⟩
 ·go_enter Tryz.func7, Tryz.ntmps7
  go_wp2
  go_ret2
  exact ⟨rfl, rfl⟩
 ·go_enter Tryz.func7, Tryz.ntmps7
  go_wp2
  go_ret2
  exact ⟨rfl, rfl⟩
 ·go_enter Tryz.func7, Tryz.ntmps7
  go_wp2
  go_ret2
  exact ⟨rfl, rfl⟩
 ·go_enter Tryz.func7, Tryz.ntmps7
  go_wp2
  go_ret2
  exact ⟨rfl, rfl⟩
 ·go_enter Tryz.func7, Tryz.ntmps7
  go_wp2
  go_ret2
  exact ⟨rfl, rfl⟩
 ·go_enter Tryz.func7, Tryz.ntmps7
  go_wp2
  go_ret2
  exact ⟨rfl, rfl⟩
 ·go_enter Tryz.func7, Tryz.ntmps7
  go_wp2
  go_ret2
  exact ⟨rfl, rfl⟩
 ·go_enter Tryz.func7, Tryz.ntmps7
  go_wp2
  go_ret2
  exact ⟨rfl, rfl⟩
 ·go_enter Tryz.func7, Tryz.ntmps7
  go_wp2
  go_ret2
  exact ⟨rfl, rfl⟩
 ·go_enter Tryz.func7, Tryz.ntmps7
  go_wp2
  go_ret2
  exact ⟨rfl, rfl⟩
 ·go_enter Tryz.func7, Tryz.ntmps7
  go_wp2
  go_ret2
  exact ⟨rfl, rfl⟩
 ·have HE := Lib.hid (show fstart f = (0, false) by unfold fstart; rw [if_neg (by omega), if_neg (by omega), if_neg (by omega), if_neg (by omega)])
  rw [HE.out]
  have m1 : (f == 1) = false := by rw [beq_eq_false_iff_ne]; exact n1
  have m2 : (f == 2) = false := by rw [beq_eq_false_iff_ne]; exact n2
  have m3 : (f == 3) = false := by rw [beq_eq_false_iff_ne]; exact n3
  have m4 : (f == 4) = false := by rw [beq_eq_false_iff_ne]; exact n4
  have m5 : (f == 5) = false := by rw [beq_eq_false_iff_ne]; exact n5
  have m6 : (f == 6) = false := by rw [beq_eq_false_iff_ne]; exact n6
  have m7 : (f == 7) = false := by rw [beq_eq_false_iff_ne]; exact n7
  have m8 : (f == 8) = false := by rw [beq_eq_false_iff_ne]; exact n8
  have m11 : (f == 11) = false := by rw [beq_eq_false_iff_ne]; exact n11
  have m12 : (f == 12) = false := by rw [beq_eq_false_iff_ne]; exact n12
  have m13 : (f == 13) = false := by rw [beq_eq_false_iff_ne]; exact n13
  have m14 : (f == 14) = false := by rw [beq_eq_false_iff_ne]; exact n14
  have m15 : (f == 15) = false := by rw [beq_eq_false_iff_ne]; exact n15
  have m16 : (f == 16) = false := by rw [beq_eq_false_iff_ne]; exact n16
  have m21 : (f == 21) = false := by rw [beq_eq_false_iff_ne]; exact n21
  have m22 : (f == 22) = false := by rw [beq_eq_false_iff_ne]; exact n22
  clear n1 n2 n3 n4 n5 n6 n7 n8 n11 n12 n13 n14 n15 n16 n21 n22
  go_enter Tryz.func7, Tryz.ntmps7
  go_wp2
  go_ret2
  exact ⟨rfl, rfl⟩
end Go.Proofs.YtghojndkcndjbaaGreatDoor

/- Layer 13, walked: the reference's Start. -/
namespace Go.Proofs.YtghojndkcndjbaaGreatDoor
set_option maxRecDepth 100000
open Go.RowKit Fl
set_option linter.unusedVariables false

theorem start_seven {f : Int} (k : Nat) (hk : k < 7) : (([1, 2, 7, 11, 15, 16, 22] : List Int).getD k 0 = f → fstart f = (0, true)) ∧ (([3, 4, 8, 12, 13, 14, 21] : List Int).getD k 0 = f → fstart f = (4607182418800017408, true)) := by
 have : k = 0 ∨ k = 1 ∨ k = 2 ∨ k = 3 ∨ k = 4 ∨ k = 5 ∨ k = 6 := by omega
 rcases this with rfl | rfl | rfl | rfl | rfl | rfl | rfl <;> exact ⟨fun h => by subst h; rfl, fun h => by subst h; rfl⟩
theorem start_rest {f : Int} (h : ∀ j, j < 7 → ([1, 2, 7, 11, 15, 16, 22] : List Int).getD j 0 ≠ f ∧ ([3, 4, 8, 12, 13, 14, 21] : List Int).getD j 0 ≠ f) : fstart f = if f = 5 then (18442240474082181119, true) else if f = 6 then (9218868437227405311, true) else (0, false) := by
 have h0 := h 0 (by omega); have h1 := h 1 (by omega); have h2 := h 2 (by omega); have h3 := h 3 (by omega)
 have h4 := h 4 (by omega); have h5 := h 5 (by omega); have h6 := h 6 (by omega)
 simp only [List.getD_cons_zero, List.getD_cons_succ] at h0 h1 h2 h3 h4 h5 h6
 unfold fstart
 rw [if_neg (by omega), if_neg (by omega)]
theorem ret_start {p : Nat × Bool} {a : Nat} {b : Bool} (h : p = (a, b)) : Ending.returned (.tuple #[.float .f64 a, .bool b]) = .returned (.tuple #[.float .f64 p.1, .bool p.2]) := by rw [h]
set_option maxHeartbeats 4000000 in
theorem rfstart_calls (f : Int) (w : World) : Calls Tryz.prog 8 #[.int .i64 f] w fun e w' => e = .returned (.tuple #[.float .f64 (fstart f).1, .bool (fstart f).2]) ∧ Below w.heap.size w w' := by
 obtain ⟨W0, hW0⟩ : ∃ W0, W0 = w.alloc (.cells #[.int .i64 1, .int .i64 2, .int .i64 7, .int .i64 11, .int .i64 15, .int .i64 16, .int .i64 22] 3) := ⟨_, rfl⟩
 obtain ⟨W1, hW1⟩ : ∃ W1, W1 = W0.alloc (.cells #[.int .i64 3, .int .i64 4, .int .i64 8, .int .i64 12, .int .i64 13, .int .i64 14, .int .i64 21] 3) := ⟨_, rfl⟩
 have HB0 : Below w.heap.size w W0 := by rw [hW0]; exact below_new _ _
 have HB1 : Below W0.heap.size W0 W1 := by rw [hW1]; exact below_new _ _
 have hsz : W0.heap.size = w.heap.size + 1 := by rw [hW0]; simp
 have HB := Lib.hid (HB0.trans (HB1.mono HB0.size))
 have HZ := Lib.hid (show Slc W1 (fun _ => True) (.slice (some ⟨w.heap.size, 0, none⟩) 7 7) ([1, 2, 7, 11, 15, 16, 22] : List Int).length (([1, 2, 7, 11, 15, 16, 22] : List Int).map (Value.int .i64)) by
  refine Slc.below (w := W0) ?_ HB1
  rw [hW0]; exact (Slc.owned (World.ownsRow_lit (base := 0) (e := 3) (size := 1) w #[.int .i64 1, .int .i64 2, .int .i64 7, .int .i64 11, .int .i64 15, .int .i64 16, .int .i64 22] 7 (Nat.zero_le _) (by unfold maxLen; omega) rfl)).keep (Kept.refl _ _) (fun _ _ _ => trivial))
 have HO := Lib.hid (show Slc W1 (fun _ => True) (.slice (some ⟨w.heap.size + 1, 0, none⟩) 7 7) ([3, 4, 8, 12, 13, 14, 21] : List Int).length (([3, 4, 8, 12, 13, 14, 21] : List Int).map (Value.int .i64)) by
  rw [hW1, ← hsz]; exact (Slc.owned (World.ownsRow_lit (base := 0) (e := 3) (size := 1) W0 #[.int .i64 3, .int .i64 4, .int .i64 8, .int .i64 12, .int .i64 13, .int .i64 14, .int .i64 21] 7 (Nat.zero_le _) (by unfold maxLen; omega) rfl)).keep (Kept.refl _ _) (fun _ _ _ => trivial))
 have hfold : (w.alloc (.cells #[.int .i64 1, .int .i64 2, .int .i64 7, .int .i64 11, .int .i64 15, .int .i64 16, .int .i64 22] 3)).alloc (.cells #[.int .i64 3, .int .i64 4, .int .i64 8, .int .i64 12, .int .i64 13, .int .i64 14, .int .i64 21] 3) = W1 := by rw [hW1, hW0]
 clear hW1 HB1 HB0; clear hW0 hsz
 go_enter Tryz.func8, Tryz.ntmps8
 go_wp2_with fail
 clear hfold; clear W0
 go_loopw [6] (fun i wr => ∃ k : Nat, k ≤ 7 ∧ i = .int .i64 k ∧ (∀ j, j < k → ([1, 2, 7, 11, 15, 16, 22] : List Int).getD j 0 ≠ f ∧ ([3, 4, 8, 12, 13, 14, 21] : List Int).getD j 0 ≠ f) ∧ wr = W1) (fun i _ => 7 - (intOf i).toNat)
 case atStart => exact ⟨0, by omega, rfl, fun j hj => by omega, rfl⟩
 case round =>
  obtain ⟨k, hk, rfl, hno, hw⟩ := hrel
  have HN := Lib.hid hno; clear hno
  subst hw
  by_cases hlt : k < 7
  ·obtain ⟨b1, o1, c1, x, e1, hx, hcx⟩ := Slc.at_map (Value.int .i64) HZ.out k hlt
   cases e1
   obtain ⟨b2, o2, c2, y, e2, hy, hcy⟩ := Slc.at_map (Value.int .i64) HO.out k hlt
   cases e2
   rw [Nat.zero_add] at hcx hcy
   have HX := Lib.hid (show ([1, 2, 7, 11, 15, 16, 22] : List Int).getD k 0 = x by rw [List.getD_eq_getElem?_getD, hx]; rfl)
   have HY := Lib.hid (show ([3, 4, 8, 12, 13, 14, 21] : List Int).getD k 0 = y by rw [List.getD_eq_getElem?_getD, hy]; rfl)
   have HS := Lib.hid (start_seven (f := f) k hlt)
   clear hx hy
   by_cases hxf : x = f
   ·have HE := Lib.hid (HS.out.1 (HX.out.trans hxf))
    have hb : (x == f) = true := by simp [hxf]
    clear hxf
    go_wp2_with fail
    go_ret2
    exact ⟨ret_start HE.out, HB.out⟩
   ·have hb : (x == f) = false := by simp [hxf]
    by_cases hyf : y = f
    ·have HE := Lib.hid (HS.out.2 (HY.out.trans hyf))
     have hb2 : (y == f) = true := by simp [hyf]
     clear hxf hyf
     go_wp2_with fail
     go_ret2
     exact ⟨ret_start HE.out, HB.out⟩
    ·have hb2 : (y == f) = false := by simp [hyf]
     have HN2 := Lib.hid (show ∀ j, j < k + 1 → ([1, 2, 7, 11, 15, 16, 22] : List Int).getD j 0 ≠ f ∧ ([3, 4, 8, 12, 13, 14, 21] : List Int).getD j 0 ≠ f from fun j hj => by
      by_cases h9 : j = k
      ·subst h9; exact ⟨by rw [HX.out]; exact hxf, by rw [HY.out]; exact hyf⟩
      ·exact HN.out j (by omega))
     clear hxf hyf
     go_wp2_with fail
     go_roundw
     case rel => exact ⟨k + 1, by omega, by go_num, HN2.out, trivial⟩
     case measure => simp [intOf]; omega
  ·have hk7 : k = 7 := by omega
   subst hk7
   have HR := Lib.hid (start_rest HN.out)
   by_cases h5 : f = 5
   ·have HE := Lib.hid (show fstart f = (18442240474082181119, true) by rw [HR.out, if_pos h5])
    have hb : (f == 5) = true := by simp [h5]
    clear h5
    go_wp2_with fail
    go_ret2
    exact ⟨ret_start HE.out, HB.out⟩
   ·have hb : (f == 5) = false := by simp [h5]
    by_cases h6 : f = 6
    ·have HE := Lib.hid (show fstart f = (9218868437227405311, true) by rw [HR.out, if_neg h5, if_pos h6])
     have hb2 : (f == 6) = true := by simp [h6]
     clear h5 h6
     go_wp2_with fail
     go_ret2
     exact ⟨ret_start HE.out, HB.out⟩
    ·have HE := Lib.hid (show fstart f = (0, false) by rw [HR.out, if_neg h5, if_neg h6])
     have hb2 : (f == 6) = false := by simp [h6]
     clear h5 h6
     go_wp2_with fail
     go_ret2
     exact ⟨ret_start HE.out, HB.out⟩
end Go.Proofs.YtghojndkcndjbaaGreatDoor

/- Layer 13, walked: along of package fold; the reference's Row and Line. -/
namespace Go.Proofs.YtghojndkcndjbaaGreatDoor
set_option maxRecDepth 100000
open Go.RowKit Fl
set_option linter.unusedVariables false

theorem Slc.dropm {α : Type} (g : α → Value) {w : World} {ok : Nat → Prop} {b off : Nat} {cap : Nat} {s : List α} (h : Slc w ok (.slice (some ⟨b, off, none⟩) s.length cap) s.length (s.map g)) (k : Nat) (hk : k ≤ s.length) : Slc w ok (.slice (some ⟨b, off + k, none⟩) (s.length - k) (cap - k)) (s.drop k).length ((s.drop k).map g) := by
 obtain ⟨⟨h1, ao1, cap1, e1, h3⟩, ao2, cap2, e2, h4, h5⟩ := h
 cases e1; cases e2
 rw [List.length_drop]
 refine ⟨⟨by rw [List.length_map, List.length_drop], _, _, rfl, fun i hi => ?_⟩, _, _, rfl, by omega, by omega⟩
 rw [List.length_map, List.length_drop] at hi
 obtain ⟨b', off', e, hb, hc⟩ := h3 (k + i) (by rw [List.length_map]; omega)
 cases e
 refine ⟨b, off + k, rfl, hb, ?_⟩
 rw [show off + k + i = off + (k + i) by omega, hc]
 simp
theorem pwd_ret {p : Nat × Int} {a : Nat} {e : Int} (h : p = (a, e)) : Ending.returned (.tuple #[.float .f64 a, .int .i64 e]) = .returned (.tuple #[.float .f64 p.1, .int .i64 p.2]) := by rw [h]
set_option maxHeartbeats 4000000 in
theorem foalong_calls {ok : Nat → Prop} (f : Int) (v : Value) (l r : List Nat) (n step : Nat) (w : World) (hv : Slc w ok v l.length (f64s l)) (hn : 0 < n) (hnm : n ≤ 1048576) (hsm : step ≤ 1048576) (hlm : l.length ≤ 1048576) (hin : (n - 1) * step < l.length) (hr : r.length = n) (hrl : ∀ i, i < n → r.getD i 0 = l.getD (i * step) 0) (hN : ∀ x ∈ l, Num x) :
  Calls Tryz.prog 110 #[.int .i64 f, v, .int .i64 (n : Int), .int .i64 (step : Int)] w (Pwd (rowN f r) w) := by
 have hat : ∀ i, i < n → ∃ b off cap, v = .slice (some ⟨b, off, none⟩) l.length cap ∧ w.cell? ⟨b, off + i * step, none⟩ = some (.float .f64 (r.getD i 0)) ∧ Num (r.getD i 0) ∧ i * step < l.length := fun i hi => by
  have h1 : i * step ≤ (n - 1) * step := Nat.mul_le_mul_right _ (by omega)
  obtain ⟨b, off, cap, x, e, hx, hc⟩ := Slc.at_map (Value.float .f64) hv (i * step) (by omega)
  have hx2 : r.getD i 0 = x := by rw [hrl i hi, List.getD_eq_getElem?_getD, hx]; rfl
  exact ⟨b, off, cap, e, by rw [hx2]; exact hc, by rw [hx2]; exact hN x (List.mem_of_getElem? hx), by omega⟩
 obtain ⟨b, off, cap, rfl, hc0, hn0, hl0⟩ := hat (n - 1) (by omega)
 have HAT := Lib.hid (show ∀ i, i < n → w.cell? ⟨b, off + i * step, none⟩ = some (.float .f64 (r.getD i 0)) ∧ Num (r.getD i 0) ∧ i * step < l.length from fun i hi => by
  obtain ⟨b', off', cap', e, h1, h2, h3⟩ := hat i hi
  cases e
  exact ⟨h1, h2, h3⟩)
 have HR := Lib.hid hr
 have HRN := Lib.hid (show ∀ y ∈ r, Num y from fun y hy => by
  obtain ⟨i, hi, e⟩ := List.getElem_of_mem hy
  have h2 := (HAT.out i (by omega)).2.1
  rw [List.getD_eq_getElem?_getD, List.getElem?_eq_getElem hi, e] at h2
  exact h2)
 obtain ⟨m, hm⟩ : ∃ m, n = m + 1 := ⟨n - 1, by omega⟩
 have hnm1 : n - 1 = m := by omega
 rw [hnm1] at hc0 hl0
 have HNM := Lib.hid hm
 obtain ⟨q, hq⟩ : ∃ q, m * step = q := ⟨_, rfl⟩
 rw [hq] at hc0 hl0
 have hm1 : ((n : Int) - 1) = (m : Int) := by omega
 have hm2 : ((n : Int) - 2) = (m : Int) - 1 := by omega
 have hq1 : IntKind.i64.wrap ((m : Int) * (step : Int)) = (q : Int) := by
  rw [← Int.natCast_mul, hq]; exact IntWalk.i64_in _ (by omega)
 have hlast := rowN_last f (l := r) (by omega)
 rw [hr, hnm1] at hlast
 have HL := Lib.hid hlast; have HN := Lib.hid hnm; have HS := Lib.hid hsm; have HLM := Lib.hid hlm; clear hlast hv hrl hN hat hr hin hlm hn hn0 hq hm hnm1
 go_enter Tryz.func110, Tryz.ntmps110
 go_wp2
 go_loopw [10, 11] (fun z i wr => ∃ k : Nat, k ≤ m ∧ i = .int .i64 ((k : Int) - 1) ∧ z = .float .f64 (rowN f (r.drop k)).1 ∧ (rowN f (r.drop k)).2 = 0 ∧ ∃ j, wr = w.drewN j) (fun _ i _ => (intOf i + 1).toNat)
 case atStart => exact ⟨m, Nat.le_refl _, congrArg (Value.int .i64) (by omega), by rw [HL.out, List.getD_eq_getElem?_getD], by rw [HL.out], 0, rfl⟩
 case round =>
  obtain ⟨k, hk, rfl, rfl, hz, j, hw⟩ := hrel
  have HW := Lib.hid hw; have HZ := Lib.hid hz
  have HBW := Lib.hid (show Below w.heap.size w wr by rw [hw]; exact Below.drewN' (Below.refl _ _) j)
  clear hw hz; have hnm := HN.out; have hsm := HS.out; have hlm := HLM.out
  cases k with
  | zero =>
   have e0 : (((0 : Nat) : Int) - 1) = -1 := rfl
   rw [e0]
   rw [List.drop_zero]
   rw [List.drop_zero] at HZ
   go_wp2
   go_ret2
   exact ⟨pwd_ret (Prod.ext rfl HZ.out), j, HW.out⟩
  | succ i =>
   have e1 : (((i + 1 : Nat) : Int) - 1) = (i : Int) := by omega
   obtain ⟨hc, hx, hlt⟩ := HAT.out i (by have := HNM.out; omega)
   have hc := keep_below HBW.out _ _ hc
   obtain ⟨x, hx0⟩ : ∃ x, r.getD i 0 = x := ⟨_, rfl⟩
   obtain ⟨q, hq⟩ : ∃ q, i * step = q := ⟨_, rfl⟩
   obtain ⟨z, hz⟩ : ∃ z, (rowN f (r.drop (i + 1))).1 = z := ⟨_, rfl⟩
   rw [hx0] at hc hx
   rw [hq] at hc hlt
   have HX := Lib.hid hx
   have HZN := Lib.hid (show Num z by rw [← hz]; exact rowN_num fun y hy => HRN.out y (List.mem_of_mem_drop hy))
   have HST := Lib.hid (show rowN f (r.drop i) = nrm (fone f x z) by rw [rowN_step f (l := r) (by have := HR.out; have := HNM.out; omega), if_pos HZ.out, hx0, hz])
   have hq1 : IntKind.i64.wrap ((i : Int) * (step : Int)) = (q : Int) := by
    rw [← Int.natCast_mul, hq]; exact IntWalk.i64_in _ (by omega)
   have HZ0 := Lib.hid hz
   rw [e1, hz]
   clear hx0 hq hz hx
   go_wp2_with fail
   refine (foone_calls f x z _ HX.out HZN.out).mono ?_
   rintro e W9 ⟨rfl, j2, hj⟩
   have HJ := Lib.hid (show W9 = w.drewN (j + j2) by rw [hj, HW.out]; simp [World.drewN, Nat.add_assoc])
   clear hj
   by_cases h0 : (fone f x z).2 = 0
   ·have H0 := Lib.hid h0; rw [h0]; clear h0
    go_wp2
    go_roundw
    case rel => exact ⟨i, by omega, by go_num, by rw [HST.out, nrm_ok H0.out], by rw [HST.out, nrm_ok H0.out], _, HJ.out⟩
    case measure => simp [intOf]
   ·obtain ⟨er, her⟩ : ∃ er, (fone f x z).2 = er := ⟨_, rfl⟩
    have HRB := Lib.hid (show rowN f r = (0, er) by
     have h9 : rowN f (r.drop i) = (0, er) := by rw [HST.out, nrm_bad h0, her]
     rw [rowN_bad f i (by have := HR.out; have := HNM.out; omega) (by rw [h9, ← her]; exact h0), h9])
    have hne : (er != 0) = true := by rw [← her]; simp [h0]
    rw [her]; clear h0 her
    go_wp2
    go_ret2
    exact ⟨pwd_ret HRB.out, _, HJ.out⟩
set_option maxHeartbeats 4000000 in
theorem rfrow_calls {ok : Nat → Prop} (f : Int) (v : Value) (l : List Nat) (w : World) (hv : Slc w ok v l.length (f64s l)) (hlm : l.length ≤ 1048576) (hN : ∀ x ∈ l, Num x) :
  Calls Tryz.prog 59 #[.int .i64 f, v] w fun e w' => e = .returned (.tuple #[.float .f64 (rowN f l).1, .int .i64 (rowN f l).2]) ∧ Below w.heap.size w w' := by
 have HRN := Lib.hid hN; have HLM := Lib.hid hlm
 by_cases h0 : l.length = 0
 ·obtain ⟨ao, cap, rfl, _⟩ := hv.opened
  have hl : l = [] := List.length_eq_zero_iff.1 h0
  subst hl
  clear hv h0 hN hlm
  obtain ⟨s, hs⟩ : ∃ s, fstart f = s := ⟨_, rfl⟩
  have HS := Lib.hid hs
  cases h2 : s.2
  ·have HR := Lib.hid (show rowN f [] = (0, 24) by unfold rowN; rw [hs, h2]; rfl)
   have HS2 := Lib.hid h2; clear hs h2
   go_enter Tryz.func59, Tryz.ntmps59
   go_wp2_with ((with_reducible refine (rfstart_calls _ _).mono ?_); rintro e w' ⟨rfl, hB⟩; rw [HS.out, HS2.out])
   go_ret2
   exact ⟨pwd_ret HR.out, hB⟩
  ·have HR := Lib.hid (show rowN f [] = (s.1, 0) by unfold rowN; rw [hs, h2]; rfl)
   have HS2 := Lib.hid h2; clear hs h2
   go_enter Tryz.func59, Tryz.ntmps59
   go_wp2_with ((with_reducible refine (rfstart_calls _ _).mono ?_); rintro e w' ⟨rfl, hB⟩; rw [HS.out, HS2.out])
   go_ret2
   exact ⟨pwd_ret HR.out, hB⟩
 ·obtain ⟨n, hn⟩ : ∃ n, l.length = n := ⟨_, rfl⟩
  obtain ⟨m, hm⟩ : ∃ m, n = m + 1 := ⟨n - 1, by omega⟩
  obtain ⟨b, off, cap, x, e0, hx0, hc0⟩ := Slc.at_map (Value.float .f64) hv m (by omega)
  subst e0
  have HV := Lib.hid hv
  have hlast := rowN_last f (l := l) (by omega)
  have hnm1 : l.length - 1 = m := by omega
  rw [hnm1] at hlast
  have HL := Lib.hid (show rowN f (l.drop m) = (x, 0) by rw [hlast, List.getD_eq_getElem?_getD, hx0]; rfl)
  have HNM := Lib.hid hm; have HN := Lib.hid hn
  have hm1 : ((n : Int) - 1) = (m : Int) := by omega
  have hm2 : ((n : Int) - 2) = (m : Int) - 1 := by omega
  have hb0 : ((n : Int) == 0) = false := by rw [beq_eq_false_iff_ne]; omega
  have hmn : m < n := by omega
  have hnle : n ≤ 1048576 := by omega
  rw [hn] at HV ⊢
  clear hv h0 hN hx0 hlast hnm1 hm hlm hn
  go_enter Tryz.func59, Tryz.ntmps59
  go_wp2_with fail
  go_loopw [8, 9] (fun z i wr => ∃ k : Nat, k ≤ m ∧ i = .int .i64 ((k : Int) - 1) ∧ z = .float .f64 (rowN f (l.drop k)).1 ∧ (rowN f (l.drop k)).2 = 0 ∧ Below w.heap.size w wr) (fun _ i _ => (intOf i + 1).toNat)
  case atStart => exact ⟨m, Nat.le_refl _, congrArg (Value.int .i64) (by omega), by rw [HL.out], by rw [HL.out], Below.refl _ _⟩
  case round =>
   obtain ⟨k, hk, rfl, rfl, hz, hw⟩ := hrel
   have HZ := Lib.hid hz; have HBW := Lib.hid hw; clear hw hz
   cases k with
   | zero =>
    have e0 : (((0 : Nat) : Int) - 1) = -1 := rfl
    rw [e0]
    rw [List.drop_zero]
    rw [List.drop_zero] at HZ
    go_wp2
    go_ret2
    exact ⟨pwd_ret (Prod.ext rfl HZ.out), HBW.out⟩
   | succ i =>
    have e1 : (((i + 1 : Nat) : Int) - 1) = (i : Int) := by omega
    have hin : i < n := by omega
    obtain ⟨b', off', cap', y, e2, hy, hc⟩ := Slc.at_map (Value.float .f64) (l := l) (show Slc w ok _ l.length (l.map _) by rw [HN.out]; exact HV.out) i (by rw [HN.out]; exact hin)
    cases e2
    have hc := keep_below HBW.out _ _ hc
    obtain ⟨z, hz⟩ : ∃ z, (rowN f (l.drop (i + 1))).1 = z := ⟨_, rfl⟩
    have HX := Lib.hid (HRN.out y (List.mem_of_getElem? hy))
    have HZN := Lib.hid (show Num z by rw [← hz]; exact rowN_num fun y hy => HRN.out y (List.mem_of_mem_drop hy))
    have HST := Lib.hid (show rowN f (l.drop i) = nrm (fone f y z) by rw [rowN_step f (l := l) (by have := HN.out; have := HNM.out; omega), if_pos HZ.out, hz, List.getD_eq_getElem?_getD, hy]; rfl)
    have HIL := Lib.hid (show i < l.length by rw [HN.out]; exact hin)
    rw [e1, hz]
    clear hz hy
    go_wp2_with fail
    refine (rfone_calls f y z _ HX.out HZN.out).mono ?_
    rintro e W9 ⟨rfl, j2, hj⟩
    have HJ := Lib.hid (show Below w.heap.size w W9 by rw [hj]; exact Below.drewN' HBW.out j2)
    clear hj
    by_cases h0 : (fone f y z).2 = 0
    ·have H0 := Lib.hid h0; rw [h0]; clear h0
     go_wp2
     go_roundw
     case rel => exact ⟨i, by omega, by go_num, by rw [HST.out, nrm_ok H0.out], by rw [HST.out, nrm_ok H0.out], HJ.out⟩
     case measure => simp [intOf]
    ·obtain ⟨er, her⟩ : ∃ er, (fone f y z).2 = er := ⟨_, rfl⟩
     have HRB := Lib.hid (show rowN f l = (0, er) by
      have h9 : rowN f (l.drop i) = (0, er) := by rw [HST.out, nrm_bad h0, her]
      rw [rowN_bad f i HIL.out (by rw [h9, ← her]; exact h0), h9])
     have hne : (er != 0) = true := by rw [← her]; simp [h0]
     rw [her]; clear h0 her
     go_wp2
     go_ret2
     exact ⟨pwd_ret HRB.out, HJ.out⟩
end Go.Proofs.YtghojndkcndjbaaGreatDoor

/- Layer 13, walked: ofNone, ofNumbers of package fold. -/
namespace Go.Proofs.YtghojndkcndjbaaGreatDoor
set_option maxRecDepth 100000
open Go.RowKit Fl
set_option linter.unusedVariables false

set_option maxHeartbeats 4000000 in
theorem fonone_calls (f : Int) (rows : Nat) (w : World) (hr : rows ≤ 1048576) (hT : TabAt w) :
  Calls Tryz.prog 55 #[.int .i64 f, .int .i64 (rows : Int)] w fun e w' => ∃ u, e = .returned (.tuple #[.agg #[u], .int .i64 (if (fstart f).2 = true then 0 else 24)]) ∧ IsV w' (fun b => w.heap.size ≤ b) u (if (fstart f).2 = true then sqL (List.replicate rows (fstart f).1) else .none) ∧ Below w.heap.size w w' := by
 have HRM := Lib.hid hr
 obtain ⟨s, hs⟩ : ∃ s, fstart f = s := ⟨_, rfl⟩
 have HS := Lib.hid hs; rw [hs]
 have HSN := Lib.hid (show Num s.1 by rw [← hs]; exact fstart_num f)
 obtain ⟨W1, hW1⟩ : ∃ W1, W1 = w.alloc (.cells #[.nilIface] 35) := ⟨_, rfl⟩
 have HB := Lib.hid (show Below w.heap.size w W1 by rw [hW1]; exact below_new _ _)
 have HR := Lib.hid (show At1 W1 w.heap.size .nilIface by rw [hW1]; exact At1.new w _ _)
 have HT := Lib.hid (show TabAt W1 from fun j hj => keep_below HB.out _ _ (hT j hj))
 have HWS := Lib.hid (show W1.heap.size = w.heap.size + 1 by rw [hW1]; simp)
 have HW1 := Lib.hid (Below.refl W1.heap.size W1)
 have hfold := hW1.symm
 clear hW1 hT hs hr
 cases h2 : s.2
 ·have HS2 := Lib.hid h2; have cHR0 := HR.out.2.1; have zHR0 := HR.out.2.2 0
  have HE := Lib.hid (show (if s.2 = true then (0 : Int) else 24) = 24 by rw [HS2.out]; rfl)
  have HV := Lib.hid (show (if s.2 = true then sqL (List.replicate rows s.1) else VV.none) = VV.none by rw [HS2.out]; rfl)
  clear h2
  go_enter Tryz.func55, Tryz.ntmps55
  go_wp2_with ((with_reducible refine (fostart_calls _ _).mono ?_); rintro e w' ⟨rfl, rfl⟩; rw [HS.out, HS2.out])
  refine bodyPost_ret (v := .tuple #[.agg #[.nilIface], .int .i64 24]) (by simp [results, Tryz.results55, go_sem, cHR0]) rfl ⟨.nilIface, rfl, .none, HB.out.setCell (Nat.le_refl _) _⟩
 ·have HS2 := Lib.hid h2
  have HF := Lib.hid (fun x (hx : x ∈ List.replicate rows s.1) => (show Num x by rw [(List.mem_replicate.1 hx).2]; exact HSN.out))
  clear h2; have cHR0 := HR.out.2.1; have zHR0 := HR.out.2.2 0
  go_enter Tryz.func55, Tryz.ntmps55
  go_wp2_with ((with_reducible refine (fostart_calls _ _).mono ?_); rintro e w' ⟨rfl, rfl⟩; rw [HS.out, HS2.out])
  clear hfold
  obtain ⟨W11, hWn⟩ : ∃ xw9, W1.alloc (.cells #[.float .f64 s.1] 22) = xw9 := ⟨_, rfl⟩
  have hB : Below W1.heap.size W1 W11 := by rw [← hWn]; exact below_new _ _
  have hNB : Slc W11 (fun _ => True) (.slice (some ⟨W1.heap.size, 0, none⟩) 1 1) 1 ([.float .f64 s.1]) := by
   rw [← hWn]; exact (Slc.owned (World.ownsRow_lit (base := 0) (e := 22) (size := 1) W1 #[.float .f64 s.1] 1 (Nat.zero_le _) (by unfold maxLen; omega) rfl)).keep (Kept.refl _ _) (fun _ _ _ => trivial)
  rw [hWn]; clear hWn; clear cHR0 zHR0; replace HB := cb hB HB; replace HT := HT.go hB; replace HW1 := cb hB HW1; replace HR := HR.go hB; have HX := Lib.hid hNB; clear hNB hB
  refine (srepeat_calls _ s.1 rows _ HX.out HRM.out).mono ?_
  rintro e W12 ⟨vr, rfl, hvr, hB⟩
  replace HB := cb hB HB; replace HT := HT.go hB; replace HW1 := cb hB HW1; replace HR := HR.go hB; replace HX := HX.go hB
  have HRP := Lib.hid (show Slc W12 (fun _ => True) vr (List.replicate rows s.1).length (f64s (List.replicate rows s.1)) by
   rw [List.length_replicate]; unfold f64s; rw [List.map_replicate]; exact hvr.any)
  clear hvr; clear hB; have cHR0 := HR.out.2.1; have zHR0 := HR.out.2.2 0
  go_wp2_with fail
  have hO := HW1.out.size
  refine (numbers_yes _ (List.replicate rows s.1) _ HRP.out (by rw [List.length_replicate]; exact HRM.out) (fun x hx => (HF.out x hx).1) HT.out).mono ?_
  rintro e W13 ⟨uq, rfl, huq, hB⟩
  clear cHR0 zHR0; replace HB := cb hB HB; replace HT := HT.go hB; replace HW1 := cb hB HW1; replace HR := HR.go hB; replace HX := HX.go hB; replace HRP := HRP.go hB
  rw [map_ze HF.out] at huq
  have HQ := Lib.hid (show IsV W13 (fun b => w.heap.size + 1 ≤ b) uq (sqL (List.replicate rows s.1)) from huq.wide (fun b _ (h : W12.heap.size ≤ b) => by have := HWS.out; omega))
  have hsq := huq.store; clear huq hO; clear hB
  obtain ⟨W14, hWn, hB, hNB⟩ := ahd1 W13 (uq) 35
  replace HB := cb hB HB; replace HT := HT.go hB; replace HW1 := cb hB HW1; replace HR := HR.go hB; replace HX := HX.go hB; replace HRP := HRP.go hB; replace HQ := HQ.go hB; have HQV := Lib.hid hNB; clear hNB hB; have cHR0 := HR.out.2.1; have zHR0 := HR.out.2.2 0; have cHQV0 := HQV.out.2.1
  go_wp2_with fail
  clear hWn
  refine bodyPost_ret (v := .tuple #[.agg #[uq], .int .i64 0]) (by simp [results, Tryz.results55, go_sem, cHR0]) rfl ⟨uq, rfl, ?_, HB.out.setCell (Nat.le_refl _) _⟩
  exact HQ.out.keep (Kept.setCell _ _ _ (by simp)) (fun b _ (h : w.heap.size + 1 ≤ b) => by omega)
end Go.Proofs.YtghojndkcndjbaaGreatDoor

/- Layer 13, walked: ofNumbers of package fold. -/
namespace Go.Proofs.YtghojndkcndjbaaGreatDoor
set_option maxRecDepth 100000
open Go.RowKit Fl
set_option linter.unusedVariables false

set_option maxHeartbeats 8000000 in
theorem fonumbers_calls {ok : Nat → Prop} (f : Int) (v : Value) (l : List Nat) (outer n inner : Nat) (w : World) (hv : Slc w ok v l.length (f64s l)) (hl : l.length = outer * n * inner) (hlm : l.length ≤ 1048576) (hN : ∀ x ∈ l, Num x) (hn : 0 < n) (hnm : n ≤ 1048576) (him : inner ≤ 1048576) (hom : outer ≤ 1048576) (hoi : outer * inner ≤ 1048576) (hT : TabAt w) :
  Calls Tryz.prog 58 #[.int .i64 f, v, .int .i64 (outer : Int), .int .i64 (n : Int), .int .i64 (inner : Int)] w fun e w' => ∃ u, e = .returned (.tuple #[.agg #[u], .int .i64 (errG (rowN f) (rowsL l outer n inner))]) ∧ IsV w' (fun b => w.heap.size ≤ b) u (if errG (rowN f) (rowsL l outer n inner) = 0 then sqL (outG (rowN f) (rowsL l outer n inner)) else .none) ∧ Below w.heap.size w w' := by
 obtain ⟨P, hP⟩ : ∃ P, rowsL l outer n inner = P := ⟨_, rfl⟩
 obtain ⟨E, hEE⟩ : ∃ E : Int, E = errG (rowN f) P := ⟨_, rfl⟩
 obtain ⟨R, hRR⟩ : ∃ R : VV, R = (if errG (rowN f) P = 0 then sqL (outG (rowN f) P) else .none) := ⟨_, rfl⟩
 rw [hP, ← hRR, ← hEE]
 have HRR := Lib.hid hRR; have HEE := Lib.hid hEE; have HV := Lib.hid hv
 have HPL := Lib.hid (show P.length = outer * inner by rw [← hP, rowsL_len])
 have HPG := Lib.hid (show ∀ o k, o < outer → k < inner → P[o * inner + k]? = some (lineG 0 l n inner o k) by intro o k ho hk; rw [← hP]; exact rowsL_get ho hk)
 have HPN := Lib.hid (show ∀ r ∈ P, Num (rowN f r).1 by rw [← hP]; exact rowsL_num hN)
 have HLL := Lib.hid (And.intro hl hlm)
 have HNM := Lib.hid hN; have HIM := Lib.hid him; have HNN := Lib.hid hnm; have HN0 := Lib.hid hn; have HOM := Lib.hid hom
 obtain ⟨D, hD⟩ : ∃ D, outer * inner = D := ⟨_, rfl⟩
 rw [hD] at hoi HPL
 have qD : IntKind.i64.wrap ((outer : Int) * (inner : Int)) = (D : Int) := by rw [← Int.natCast_mul, hD]; exact IntWalk.i64_in _ (by omega)
 have HDE := Lib.hid hD; have HDM := Lib.hid hoi
 obtain ⟨i0, hi, hz0, hz1, hz2⟩ := info_parts info_f64
 have HI0 := Lib.hid (And.intro hi (And.intro hz0 (And.intro hz1 hz2)))
 have HDY := Lib.hid (show i0.bytes * D ≤ 281474976710656 by rw [hz2]; omega)
 have HDX := Lib.hid (show D ≤ maxLen by unfold maxLen; omega)
 obtain ⟨ao, cap, rfl, _⟩ := hv.opened
 have hst := run_store_float
 obtain ⟨W1, hW1⟩ : ∃ W1, W1 = w.alloc (.cells #[.nilIface] 35) := ⟨_, rfl⟩
 have HB := Lib.hid (show Below w.heap.size w W1 by rw [hW1]; exact below_new _ _)
 have HR := Lib.hid (show At1 W1 w.heap.size .nilIface by rw [hW1]; exact At1.new w _ _)
 have HT := Lib.hid (show TabAt W1 from fun j hj => keep_below HB.out _ _ (hT j hj))
 have HWS := Lib.hid (show W1.heap.size = w.heap.size + 1 by rw [hW1]; simp)
 replace HV := Lib.hid (HV.out.below HB.out)
 obtain ⟨bk, hbk⟩ : ∃ bk, W1.heap.size = bk := ⟨_, rfl⟩
 have HBK := Lib.hid hbk
 have hfold := hW1.symm
 clear hW1 hT hv hl hlm hN hn hnm him hom hoi hP hEE hRR hD hi hz0 hz1 hz2 hbk; have cHR0 := HR.out.2.1; have zHR0 := HR.out.2.2 0
 go_enter Tryz.func58, Tryz.ntmps58
 go_wp2_with ((with_reducible refine wpList_make_own _ rfl _ _ 38 rfl bk 22 i0 (.float .f64 0) 1 Tryz.underlying38 HI0.out.1 HI0.out.2.1 HI0.out.2.2.1 .i64 .i64 _ D rfl rfl rfl HDY.out HDX.out (Nat.le_of_eq HBK.out.symm) ?_))
 clear hfold
 intro W2 hown hgr
 have HO := Lib.hid hown
 have hB : Below W1.heap.size W1 W2 := (Below.refl _ _).grown hgr (Nat.le_refl _) (fun k hk => by cases hk)
 have HK := Lib.hid hB; clear hown hgr hB qD cHR0 zHR0
 go_wp2_with fail
 go_loopw [12, 24] (fun v i wr => ∃ o A : Nat, o ≤ outer ∧ i = .int .i64 o ∧ A = o * inner ∧ errG (rowN f) P = errG (rowN f) (P.drop A) ∧ wr.ownsRow bk 22 1 v A (f64s (outG (rowN f) (P.take A))) ∧ Below W1.heap.size W1 wr) (fun _ i _ => outer - (intOf i).toNat)
 case atStart => exact ⟨0, 0, by omega, rfl, (Nat.zero_mul _).symm, rfl, HO.out, HK.out⟩
 case round =>
  obtain ⟨o, A, ho, rfl, hA, herr, hown, hB⟩ := hrel
  have HO := Lib.hid hown; have HK := Lib.hid hB; have HE := Lib.hid herr; have HA := Lib.hid hA; clear hown hB herr hA
  by_cases hlo : o < outer
  ·have HLO := Lib.hid hlo
   go_wp2_with fail
   go_loopw [12, 28] (fun v i wr => ∃ k q : Nat, k ≤ inner ∧ i = .int .i64 k ∧ q = A + k ∧ errG (rowN f) P = errG (rowN f) (P.drop q) ∧ wr.ownsRow bk 22 1 v q (f64s (outG (rowN f) (P.take q))) ∧ Below W1.heap.size W1 wr) (fun _ i _ => inner - (intOf i).toNat)
   case atStart => exact ⟨0, A, by omega, rfl, rfl, HE.out, HO.out, HK.out⟩
   case round =>
    obtain ⟨k, q, hk, rfl, hq, herr, hown, hB⟩ := hrel
    have HO := Lib.hid hown; have HK := Lib.hid hB; have HE := Lib.hid herr; have HQ := Lib.hid hq; clear hown hB herr hq
    by_cases hlt : k < inner
    ·have HPQ := Lib.hid (show P[q]? = some (lineG 0 l n inner o k) by rw [HQ.out, HA.out]; exact HPG.out o k HLO.out hlt)
     have HVW := Lib.hid (HV.out.below HK.out)
     have HRW := Lib.hid (HR.out.below HK.out)
     have hlm := HLL.out.2; have hn0 := HN0.out
     obtain ⟨r, hr⟩ : ∃ r, lineG 0 l n inner o k = r := ⟨_, rfl⟩
     have HRN := Lib.hid (show r.length = n by rw [← hr, lineG_len])
     obtain ⟨X, hX⟩ : ∃ X, o * n = X := ⟨_, rfl⟩
     obtain ⟨Y, hY⟩ : ∃ Y, X * inner = Y := ⟨_, rfl⟩
     obtain ⟨Z, hZ⟩ : ∃ Z, Y + k = Z := ⟨_, rfl⟩
     have hpl := place_lt (o := o) (i := n - 1) (k := k) HLO.out (show n - 1 < n by omega) hlt
     rw [← HLL.out.1, hX, Nat.add_mul, hY] at hpl
     have hXm : X ≤ Y := by rw [← hY]; exact Nat.le_mul_of_pos_right _ (by omega)
     have hZl : Z < l.length := by omega
     have HIN := Lib.hid (show (n - 1) * inner < (l.drop Z).length by rw [List.length_drop]; omega)
     have HRD := Lib.hid (show ∀ i, i < n → r.getD i 0 = (l.drop Z).getD (i * inner) 0 from fun i hi => by
      rw [← hr, lineG_get 0 l n inner o k hi, hX, Nat.add_mul, hY]
      simp only [List.getD_eq_getElem?_getD, List.getElem?_drop]
      rw [show Y + i * inner + k = Z + i * inner by omega])
     rw [hr] at HPQ
     obtain ⟨y, hy⟩ : ∃ y, rowN f r = y := ⟨_, rfl⟩
     have HY := Lib.hid hy
     have HES := Lib.hid (show errG (rowN f) (P.drop q) = if y.2 = 0 then errG (rowN f) (P.drop (q + 1)) else y.2 by rw [← hy]; exact errG_step HPQ.out)
     have HTK := Lib.hid (show outG (rowN f) (P.take (q + 1)) = outG (rowN f) (P.take q) ++ [y.1] by rw [← hy]; exact outG_take HPQ.out)
     obtain ⟨b, off, cap', x9, e9, hx9, hc9⟩ := Slc.at_map (Value.float .f64) HVW.out Z hZl
     cases e9
     have hcap := HVW.out.2
     obtain ⟨ao8, cap8, e8, hcap1, hcap2⟩ := hcap
     cases e8
     have hcz : (cap = Z) = False := eq_false (by omega)
     have HVD := Lib.hid (Slc.dropm (Value.float .f64) HVW.out Z (by omega))
     have HDN := Lib.hid (show ∀ x ∈ l.drop Z, Num x from fun x hx => HNM.out x (List.mem_of_mem_drop hx))
     have HDL := Lib.hid (show (l.drop Z).length ≤ 1048576 by rw [List.length_drop]; omega)
     have q1 : IntKind.i64.wrap ((o : Int) * (n : Int)) = (X : Int) := by rw [← Int.natCast_mul, hX]; exact IntWalk.i64_in _ (by omega)
     have q2 : IntKind.i64.wrap ((X : Int) * (inner : Int)) = (Y : Int) := by rw [← Int.natCast_mul, hY]; exact IntWalk.i64_in _ (by omega)
     have q3 : IntKind.i64.wrap ((Y : Int) + (k : Int)) = (Z : Int) := by rw [← Int.natCast_add, hZ]; exact IntWalk.i64_in _ (by omega)
     clear hr hy hX hY hZ hpl hXm hx9 hc9
     go_wp2_with fail
     refine (foalong_calls f _ (l.drop Z) r n inner _ HVD.out hn0 HNN.out HIM.out HDL.out HIN.out HRN.out HRD.out HDN.out).mono ?_
     rintro e W9 ⟨rfl, mm, hm⟩
     rw [HY.out]
     have HO9 := Lib.hid (show W9.ownsRow bk 22 1 _ q (f64s (outG (rowN f) (P.take q))) by rw [hm]; exact HO.out.drewN' mm)
     have HK9 := Lib.hid (show Below W1.heap.size W1 W9 by rw [hm]; exact Below.drewN' HK.out mm)
     have HB9 := Lib.hid (HB.out.trans (HK9.out.mono HB.out.size))
     have HRW9 := Lib.hid (HR.out.below HK9.out)
     have HSW := Lib.hid HK9.out.size; clear hm; have cHR0 := HRW9.out.2.1; have zHR0 := HRW9.out.2.2 0
     by_cases h0 : y.2 = 0
     ·have HE2 := Lib.hid (show errG (rowN f) P = errG (rowN f) (P.drop (q + 1)) by rw [HE.out, HES.out, if_pos h0])
      have HQM := Lib.hid (show q + 1 ≤ 1048576 by
       obtain ⟨h9, _⟩ := List.getElem?_eq_some_iff.1 HPQ.out
       have := HPL.out; have := HDM.out; omega)
      have HM1 : Hid (q + 1 ≤ maxLen) := Lib.hid (by have := HQM.out; unfold maxLen; omega)
      have HBQ := Lib.hid (show bk ≤ W9.heap.size by have := HSW.out; have := HBK.out; omega)
      rw [h0]; clear h0
      go_wp2_with (at_builtin; refine wpList_append_own _ rfl _ _ 38 rfl bk 22 i0 (.float .f64 0) 1 8 Tryz.underlying38 HI0.out.1 HI0.out.2.1 HI0.out.2.2.1 HI0.out.2.2.2 rfl (by decide) _ _ _ rfl (HO9.out.alloc _) ⟨W9.heap.size, 0, none⟩ 1 1 [.float .f64 y.1] rfl rfl ?c1 ?c2 HM1.out ?c4 ?c5 ?_)
      case c1 =>
       intro j u hj
       match j, hj with
       | 0, hj => simp at hj; subst hj; simp [Addr.add]
      case c2 => intro u hu; simp at hu; subst hu; rfl
      case c4 => have := HQM.out; omega
      case c5 => have := HBQ.out; simp <;> omega
      intro v' w3 hown' hgrow _
      have HO3 := Lib.hid hown'
      have HK3 := Lib.hid (grown_below (HK9.out.alloc HSW.out _) (HO9.out.alloc _) (Nat.le_of_eq HBK.out) (by have := HSW.out; simp <;> omega) hgrow)
      clear hown' hgrow cHR0 zHR0
      have him := HIM.out
      go_wp2
      go_roundw
      case rel =>
       refine ⟨k + 1, q + 1, by omega, by go_num, by have := HQ.out; omega, HE2.out, ?_, HK3.out⟩
       have := HO3.out
       rw [HTK.out]
       simpa [f64s] using this
      case measure => simp [intOf]; omega
     ·obtain ⟨er, her⟩ : ∃ er, y.2 = er := ⟨_, rfl⟩
      have HE2 := Lib.hid (show errG (rowN f) P = er by rw [HE.out, HES.out, if_neg h0, her])
      have hne : (er != 0) = true := by rw [← her]; simp [h0]
      have HNE := Lib.hid (show er ≠ 0 by rw [← her]; exact h0)
      rw [her]; clear h0 her
      go_wp2
      refine bodyPost_ret (v := .tuple #[.agg #[.nilIface], .int .i64 er]) (by simp [results, Tryz.results58, go_sem, cHR0]) rfl ⟨.nilIface, ?_, ?_, HB9.out.setCell (Nat.le_refl _) _⟩
      ·rw [HEE.out, HE2.out]
      ·rw [HRR.out, HE2.out, if_neg HNE.out]; exact .none
    ·have hki : k = inner := by omega
     have HQ2 := Lib.hid (show q = (o + 1) * inner by rw [HQ.out, hki, HA.out, Nat.add_mul, Nat.one_mul])
     clear hki; have hom := HOM.out
     go_wp2
     go_roundw
     case rel => exact ⟨o + 1, q, by omega, by go_num, HQ2.out, HE.out, HO.out, HK.out⟩
     case measure => simp [intOf]; omega
  ·have hoo : o = outer := by omega
   have HAL := Lib.hid (show A = P.length by rw [HPL.out, HA.out, hoo, HDE.out])
   have HE2 := Lib.hid (show errG (rowN f) P = 0 by rw [HE.out, HAL.out, List.drop_length]; rfl)
   obtain ⟨L, hL⟩ : ∃ L, outG (rowN f) P = L := ⟨_, rfl⟩
   have HLL2 := Lib.hid (show L.length = P.length by rw [← hL, outG_len])
   have HLN := Lib.hid (show ∀ x ∈ L, Num x by rw [← hL]; exact outG_num HPN.out)
   have HRE := Lib.hid (show R = sqL L by rw [HRR.out, if_pos HE2.out, hL])
   have HLS := Lib.hid (show Slc wr (fun b => bk ≤ b) u12 L.length (f64s L) by
    have := Slc.owned HO.out
    rw [HAL.out, List.take_length, hL] at this
    rw [HLL2.out]; exact this)
   have HLM := Lib.hid (show L.length ≤ 1048576 by rw [HLL2.out, HPL.out]; exact HDM.out)
   clear hoo hL
   obtain ⟨ax, cx, rfl, _⟩ := HLS.out.opened
   have HB2 := Lib.hid (HB.out.trans (HK.out.mono HB.out.size))
   have HRW := Lib.hid (HR.out.below HK.out)
   have HTW := Lib.hid (show TabAt wr from fun j hj => keep_below HK.out _ _ (HT.out j hj))
   have HSW := Lib.hid HK.out.size
   go_wp2_with fail
   refine (numbers_yes _ L _ HLS.out HLM.out (fun x hx => (HLN.out x hx).1) HTW.out).mono ?_
   rintro e W11 ⟨uq, rfl, huq, hB⟩
   replace HB2 := cb hB HB2; replace HRW := HRW.go hB
   rw [map_ze HLN.out] at huq
   have HQ := Lib.hid (show IsV W11 (fun b => w.heap.size + 1 ≤ b) uq (sqL L) from huq.wide (fun b _ (h : wr.heap.size ≤ b) => by have := HWS.out; have := HSW.out; omega))
   have hsq := huq.store; clear huq; clear hB
   obtain ⟨W12, hWn, hB, hNB⟩ := ahd1 W11 (uq) 35
   replace HB2 := cb hB HB2; replace HRW := HRW.go hB; replace HQ := HQ.go hB; have HQV := Lib.hid hNB; clear hNB hB; have cHRW0 := HRW.out.2.1; have zHRW0 := HRW.out.2.2 0; have cHQV0 := HQV.out.2.1
   go_wp2_with fail
   clear hWn
   refine bodyPost_ret (v := .tuple #[.agg #[uq], .int .i64 0]) (by simp [results, Tryz.results58, go_sem, cHRW0]) rfl ⟨uq, ?_, ?_, HB2.out.setCell (Nat.le_refl _) _⟩
   ·rw [HEE.out, HE2.out]
   ·rw [HRE.out]
    exact HQ.out.keep (Kept.setCell _ _ _ (by simp)) (fun b _ (h : w.heap.size + 1 ≤ b) => by omega)
end Go.Proofs.YtghojndkcndjbaaGreatDoor

/- Layer 13, plain: rows of booleans put together: by a table, cell by cell, by what settles and what flips, by counting. -/
namespace Go.Proofs.YtghojndkcndjbaaGreatDoor
set_option maxRecDepth 100000
open Go.RowKit Fl
set_option linter.unusedVariables false

/-- A row of booleans put together by a table. -/
def rowB (t : Nat) : List Bool → Bool
 | [] => false
 | [x] => x
 | x :: y :: l => tab t x (rowB t (y :: l))
def Closed (f : Int) (t : Nat) : Prop := ∀ a b : Bool, fone f (flagW a) (flagW b) = (flagW (tab t a b), 0)
theorem rowB_cons (t : Nat) (x : Bool) {l : List Bool} (h : l ≠ []) : rowB t (x :: l) = tab t x (rowB t l) := by
 cases l with
 | nil => exact absurd rfl h
 | cons y l => rfl
theorem rowB_step (t : Nat) {l : List Bool} {i : Nat} (h : i + 1 < l.length) : rowB t (l.drop i) = tab t (sq l i) (rowB t (l.drop (i + 1))) := by
 rw [List.drop_eq_getElem_cons (show i < l.length by omega), rowB_cons t _ (by intro h2; have := congrArg List.length h2; simp at this; omega), sq_in (show i < l.length by omega)]
theorem rowB_last (t : Nat) {l : List Bool} (h : 0 < l.length) : rowB t (l.drop (l.length - 1)) = sq l (l.length - 1) := by
 have h1 : l.length - 1 < l.length := by omega
 rw [List.drop_eq_getElem_cons h1, List.drop_eq_nil_of_le (by omega), sq_in h1]
 rfl
theorem rowN_flags {f : Int} {t : Nat} (hc : Closed f t) : ∀ l : List Bool, l ≠ [] → rowN f (l.map flagW) = (flagW (rowB t l), 0)
 | [], h => absurd rfl h
 | [x], _ => rfl
 | x :: y :: l, _ => by
  have ih := rowN_flags hc (y :: l) (by simp)
  show rowN f (flagW x :: (y :: l).map flagW) = _
  rw [rowN_cons f _ (by simp), ih, if_pos rfl, hc, nrm_ok rfl]
  rfl
theorem lineG_map {α β : Type} (g : α → β) (d : α) (l : List α) (n inner o k : Nat) : lineG (g d) (l.map g) n inner o k = (lineG d l n inner o k).map g := by
 simp [lineG]
/-- The rows of a vector of booleans. -/
def outB (t : Nat) (p : List Bool) (outer n inner : Nat) : List Bool := (List.range (outer * inner)).map fun q => rowB t (lineG false p n inner (q / inner) (q % inner))
theorem outB_len (t : Nat) (p : List Bool) (outer n inner : Nat) : (outB t p outer n inner).length = outer * inner := by simp [outB]
theorem rows_flags {f : Int} {t : Nat} (hc : Closed f t) (p : List Bool) (outer n inner : Nat) (hn : 0 < n) :
  errG (rowN f) (rowsL (p.map flagW) outer n inner) = 0 ∧ outG (rowN f) (rowsL (p.map flagW) outer n inner) = (outB t p outer n inner).map flagW := by
 have e : ∀ o k, rowN f (lineG 0 (p.map flagW) n inner o k) = (flagW (rowB t (lineG false p n inner o k)), 0) := fun o k => by
  rw [show lineG 0 (p.map flagW) n inner o k = (lineG false p n inner o k).map flagW from lineG_map flagW false p n inner o k]
  exact rowN_flags hc _ (by intro h; have := congrArg List.length h; rw [lineG_len] at this; simp at this; omega)
 refine ⟨errG_all fun r hr => ?_, ?_⟩
 ·obtain ⟨q, _, rfl⟩ := List.mem_map.1 hr
  rw [e]
 ·unfold outG rowsL outB
  rw [List.map_map, List.map_map]
  exact List.map_congr_left fun q _ => by
   show (rowN f (lineG 0 (p.map flagW) n inner (q / inner) (q % inner))).1 = flagW (rowB t (lineG false p n inner (q / inner) (q % inner)))
   rw [e]
theorem bits_sq {l : List Bool} (h : l.length ≤ 1048576) : VV.bits l = sqL (l.map flagW) := by
 have hc := VV.canon (V := VV.bits l) h trivial rfl rfl (show (0 : Int) < 1 by decide)
 exact hc

/-- Cell by cell. -/
def cellB (t : Nat) (p : List Bool) (n inner o a : Nat) : List Bool := (List.range inner).map fun k => rowB t ((lineG false p n inner o k).drop a)
theorem cellB_len (t : Nat) (p : List Bool) (n inner o a : Nat) : (cellB t p n inner o a).length = inner := by simp [cellB]
theorem sq_cut (p : List Bool) {x y k : Nat} (hk : x + k < y) : sq ((p.take y).drop x) k = sq p (x + k) := by
 unfold sq
 rw [List.getElem?_drop, List.getElem?_take_of_lt hk]
theorem cut_len (p : List Bool) {x y : Nat} (hxy : x ≤ y) (hy : y ≤ p.length) : ((p.take y).drop x).length = y - x := by simp; omega
theorem sq_line (p : List Bool) (n inner o k : Nat) {i : Nat} (h : i < n) : sq (lineG false p n inner o k) i = sq p ((o * n + i) * inner + k) := by
 unfold sq
 rw [← List.getD_eq_getElem?_getD, lineG_get false p n inner o k h, List.getD_eq_getElem?_getD]
theorem cell_last (t : Nat) (p : List Bool) {outer n inner o : Nat} (hp : p.length = outer * n * inner) (hn : 0 < n) (ho : o < outer) :
  (p.take ((o * n + n - 1 + 1) * inner)).drop ((o * n + n - 1) * inner) = cellB t p n inner o (n - 1) := by
 have hm := Nat.mul_le_mul_right n (show o + 1 ≤ outer by omega)
 rw [Nat.add_mul] at hm
 have h1 : (o * n + n - 1 + 1) * inner ≤ p.length := by rw [hp]; exact Nat.mul_le_mul_right _ (by omega)
 have h2 : (o * n + n - 1) * inner + inner = (o * n + n - 1 + 1) * inner := by rw [Nat.add_mul (o * n + n - 1) 1]; omega
 apply List.ext_getElem (by rw [cut_len p (by omega) h1, cellB_len]; omega)
 intro k hk1 hk2
 rw [cellB_len] at hk2
 rw [← sq_in hk1, sq_cut p (by omega)]
 have e := rowB_last t (l := lineG false p n inner o k) (by rw [lineG_len]; exact hn)
 rw [lineG_len] at e
 simp only [cellB, List.getElem_map, List.getElem_range]
 rw [e, sq_line p n inner o k (by omega)]
 congr 2
 congr 1
 omega
theorem cell_step (t : Nat) (p : List Bool) {outer n inner o a : Nat} (hp : p.length = outer * n * inner) (ha : a + 1 < n) (ho : o < outer) :
  List.zipWith (tab t) ((p.take ((o * n + a + 1) * inner)).drop ((o * n + a) * inner)) (cellB t p n inner o (a + 1)) = cellB t p n inner o a := by
 have hm := Nat.mul_le_mul_right n (show o + 1 ≤ outer by omega)
 rw [Nat.add_mul] at hm
 have h1 : (o * n + a + 1) * inner ≤ p.length := by rw [hp]; exact Nat.mul_le_mul_right _ (by omega)
 have h2 : (o * n + a) * inner + inner = (o * n + a + 1) * inner := by rw [Nat.add_mul (o * n + a) 1]; omega
 have hc : ((p.take ((o * n + a + 1) * inner)).drop ((o * n + a) * inner)).length = inner := by rw [cut_len p (by omega) h1]; omega
 apply List.ext_getElem (by rw [List.length_zipWith, hc, cellB_len, cellB_len]; omega)
 intro k hk1 hk2
 rw [cellB_len] at hk2
 rw [List.getElem_zipWith, ← sq_in, sq_cut p (by omega)]
 simp only [cellB, List.getElem_map, List.getElem_range]
 rw [rowB_step t (l := lineG false p n inner o k) (i := a) (by rw [lineG_len]; exact ha), sq_line p n inner o k (i := a) (by omega)]
theorem outB_zero (t : Nat) (p : List Bool) (n inner : Nat) : outB t p 0 n inner = [] := by simp [outB]
theorem outB_succ (t : Nat) (p : List Bool) (n inner o : Nat) : outB t p (o + 1) n inner = outB t p o n inner ++ cellB t p n inner o 0 := by
 unfold outB cellB
 rw [Nat.add_mul, Nat.one_mul, List.range_add, List.map_append, List.map_map]
 congr 1
 apply List.map_congr_left
 intro k hk
 have hk : k < inner := List.mem_range.1 hk
 have e1 : (o * inner + k) / inner = o := by rw [Nat.mul_comm, Nat.mul_add_div (by omega), Nat.div_eq_of_lt hk]; rfl
 have e2 : (o * inner + k) % inner = k := by rw [Nat.mul_comm, Nat.mul_add_mod, Nat.mod_eq_of_lt hk]
 show rowB t (lineG false p n inner ((o * inner + k) / inner) ((o * inner + k) % inner)) = _
 rw [e1, e2, List.drop_zero]

/-- Row by row: what settles, what flips. -/
theorem line_cut (p : List Bool) {outer n o : Nat} (hp : p.length = outer * n) (ho : o < outer) : (p.take ((o + 1) * n)).drop (o * n) = lineG false p n 1 o 0 := by
 have h1 : (o + 1) * n ≤ p.length := by rw [hp]; exact Nat.mul_le_mul_right _ (by omega)
 have h2 : (o + 1) * n = o * n + n := by rw [Nat.add_mul]; omega
 apply List.ext_getElem (by rw [cut_len p (by omega) h1, lineG_len]; omega)
 intro i hi1 hi2
 rw [lineG_len] at hi2
 rw [← sq_in hi1, sq_cut p (by omega), ← sq_in, sq_line p n 1 o 0 hi2]
 congr 1
 omega
def lowB (t : Nat) (x : Bool) : Bool := tab t x false
def settB (t : Nat) (x : Bool) : Bool := tab t x false == tab t x true
def flipB (t : Nat) (x : Bool) : Bool := tab t x false && !tab t x true
theorem tab_settle {t : Nat} {x : Bool} (h : settB t x = true) (y : Bool) : tab t x y = lowB t x := by
 unfold settB at h; unfold lowB
 cases y
 ·rfl
 ·exact (eq_of_beq h).symm
theorem tab_flip {t : Nat} {x : Bool} (h : settB t x = false) (y : Bool) : tab t x y = (y != flipB t x) := by
 unfold settB at h; unfold flipB
 cases h1 : tab t x false <;> cases h2 : tab t x true <;> rw [h1, h2] at h <;> first | (exact absurd h (by decide)) | (cases y <;> simp [h1, h2])
theorem sq_map {g : Bool → Bool} {r : List Bool} {k : Nat} (h : k < r.length) : sq (r.map g) k = g (sq r k) := by
 rw [sq_in (by rw [List.length_map]; exact h), sq_in h]; simp
theorem row_from (t : Nat) (r : List Bool) (at0 : Nat) (hat : at0 < r.length) (hns : ∀ k, k < at0 → settB t (sq r k) = false) :
  ∀ d a, a + d = at0 → rowB t (r.drop a) = (rowB t (r.drop at0) != decide (cnt (fun k => sq (r.map (flipB t)) (a + k)) d % 2 = 1))
 | 0, a, h => by
  have : a = at0 := by omega
  subst this
  simp [cnt]
 | d + 1, a, h => by
  have ih := row_from t r at0 hat hns d (a + 1) (by omega)
  rw [rowB_step t (show a + 1 < r.length by omega), tab_flip (hns a (by omega)), ih, cnt_cons]
  simp only [Nat.add_zero]
  simp only [sq_map (g := flipB t) (show a < r.length by omega)]
  have e : (fun k => sq (r.map (flipB t)) (a + (k + 1))) = fun k => sq (r.map (flipB t)) (a + 1 + k) := by funext k; congr 1; omega
  rw [e]
  generalize cnt (fun k => sq (r.map (flipB t)) (a + 1 + k)) d = c
  generalize rowB t (r.drop at0) = z
  cases flipB t (sq r a)
  ·rw [Bool.toNat_false, Nat.zero_add]; cases (z != decide (c % 2 = 1)) <;> rfl
  ·rw [Bool.toNat_true]
   have hc : c % 2 = 0 ∧ (1 + c) % 2 = 1 ∨ c % 2 = 1 ∧ (1 + c) % 2 = 0 := by omega
   rcases hc with ⟨h1, h2⟩ | ⟨h1, h2⟩ <;> simp only [h1, h2] <;> cases z <;> decide
theorem row_settle (t : Nat) (r : List Bool) (hr : 0 < r.length) :
  rowB t r = ((if firstOf (r.map (settB t)) < r.length - 1 then lowB t (sq r (firstOf (r.map (settB t)))) else sq r (r.length - 1)) != decide (cnt (sq (r.map (flipB t))) (if firstOf (r.map (settB t)) < r.length - 1 then firstOf (r.map (settB t)) else r.length - 1) % 2 = 1)) := by
 have key : ∀ a, a < r.length → (∀ k, k < a → settB t (sq r k) = false) → rowB t r = (rowB t (r.drop a) != decide (cnt (sq (r.map (flipB t))) a % 2 = 1)) := fun a ha h => by
  have := row_from t r a ha h a 0 (by omega)
  rw [List.drop_zero] at this
  rw [this]
  have e : (fun k => sq (r.map (flipB t)) (0 + k)) = sq (r.map (flipB t)) := by funext k; rw [Nat.zero_add]
  rw [e]
 by_cases hs : ∃ m, m < r.length ∧ settB t (sq r m) = true
 ·obtain ⟨m, hm, hb, hmin⟩ : ∃ m, m < r.length ∧ settB t (sq r m) = true ∧ ∀ k, k < m → settB t (sq r k) = false := by
   obtain ⟨m, hm, hb⟩ := hs
   have : ∀ j, ∀ m, m ≤ j → m < r.length → settB t (sq r m) = true → ∃ m, m < r.length ∧ settB t (sq r m) = true ∧ ∀ k, k < m → settB t (sq r k) = false := by
    intro j
    induction j with
    | zero => intro m h1 h2 h3; exact ⟨m, h2, h3, fun k hk => by omega⟩
    | succ j ih =>
     intro m h1 h2 h3
     by_cases hx : ∃ k, k < m ∧ settB t (sq r k) = true
     ·obtain ⟨k, hk, hkb⟩ := hx
      exact ih k (by omega) (by omega) hkb
     ·exact ⟨m, h2, h3, fun k hk => by
       cases e : settB t (sq r k) with
       | false => rfl
       | true => exact absurd ⟨k, hk, e⟩ hx⟩
   exact this m m (Nat.le_refl _) hm hb
  have hf : firstOf (r.map (settB t)) = m := firstOf_at _ m (by rw [List.length_map]; exact hm) (fun k hk => by rw [sq_map (by omega)]; exact hmin k hk) (by rw [sq_map hm]; exact hb)
  rw [hf]
  by_cases h1 : m < r.length - 1
  ·rw [if_pos h1, if_pos h1, key m hm hmin, rowB_step t (show m + 1 < r.length by omega), tab_settle hb]
  ·rw [if_neg h1, if_neg h1, key (r.length - 1) (by omega) (fun k hk => hmin k (by omega)), rowB_last t hr]
 ·have hno : ∀ k, k < r.length → settB t (sq r k) = false := fun k hk => by
   cases e : settB t (sq r k) with
   | false => rfl
   | true => exact absurd ⟨k, hk, e⟩ hs
  have hf : firstOf (r.map (settB t)) = r.length := by
   rw [firstOf_none _ (fun k hk => by rw [List.length_map] at hk; rw [sq_map hk]; exact hno k hk), List.length_map]
  rw [hf, if_neg (by omega), if_neg (by omega), key (r.length - 1) (by omega) (fun k hk => hno k (by omega)), rowB_last t hr]

/-- By counting: what is added less what is taken away. -/
def sumB : List Bool → Int
 | [] => 0
 | x :: l => (x.toNat : Int) + sumB l
def altB : List Bool → Int
 | [] => 0
 | x :: l => (x.toNat : Int) - altB l
theorem sumB_bd : ∀ l : List Bool, 0 ≤ sumB l ∧ sumB l ≤ l.length
 | [] => ⟨Int.le_refl _, Int.le_refl _⟩
 | x :: l => by
  have := sumB_bd l
  have hx : x.toNat ≤ 1 := Bool.toNat_le x
  simp only [sumB, List.length_cons]
  omega
theorem altB_bd : ∀ l : List Bool, -(l.length : Int) ≤ altB l ∧ altB l ≤ l.length
 | [] => ⟨Int.le_refl _, Int.le_refl _⟩
 | x :: l => by
  have := altB_bd l
  have hx : x.toNat ≤ 1 := Bool.toNat_le x
  simp only [altB, List.length_cons]
  omega
theorem flagW_ofInt (b : Bool) : flagW b = floatOfInt .f64 (b.toNat : Int) := by cases b <;> decide +kernel
theorem rowN_sum : ∀ l : List Bool, l ≠ [] → l.length ≤ 1048576 → rowN 1 (l.map flagW) = (floatOfInt .f64 (sumB l), 0)
 | [], h, _ => absurd rfl h
 | [x], _, _ => by
  show (flagW x, (0 : Int)) = _
  rw [flagW_ofInt]; simp [sumB]
 | x :: y :: l, _, hl => by
  have ih := rowN_sum (y :: l) (by simp) (by simp at hl ⊢; omega)
  have bd := sumB_bd (y :: l)
  have hx : x.toNat ≤ 1 := Bool.toNat_le x
  simp only [List.length_cons] at hl bd
  show rowN 1 (flagW x :: (y :: l).map flagW) = _
  rw [rowN_cons 1 _ (by simp), ih, if_pos rfl, fone_a _ _ (by decide), flagW_ofInt]
  have hs1 : sm (x.toNat : Int) = true := sm_yes (by omega) (by omega)
  have hs2 : sm (sumB (y :: l)) = true := sm_yes (by omega) (by omega)
  have hs3 : sm ((x.toNat : Int) + sumB (y :: l)) = true := sm_yes (by omega) (by omega)
  have hw : whA 1 (x.toNat : Int) (sumB (y :: l)) = ((x.toNat : Int) + sumB (y :: l), true) := by
   generalize sumB (y :: l) = z at *
   simp [whA, hs3]
  have h9 := (whA_one (f := 1) hs1 hs2 (by rw [hw])).1
  rw [h9, nrm_ok rfl, hw]
  rfl
theorem rowN_alt : ∀ l : List Bool, l ≠ [] → l.length ≤ 1048576 → rowN 2 (l.map flagW) = (floatOfInt .f64 (altB l), 0)
 | [], h, _ => absurd rfl h
 | [x], _, _ => by
  show (flagW x, (0 : Int)) = _
  rw [flagW_ofInt]; simp [altB]
 | x :: y :: l, _, hl => by
  have ih := rowN_alt (y :: l) (by simp) (by simp at hl ⊢; omega)
  have bd := altB_bd (y :: l)
  have hx : x.toNat ≤ 1 := Bool.toNat_le x
  simp only [List.length_cons] at hl bd
  show rowN 2 (flagW x :: (y :: l).map flagW) = _
  rw [rowN_cons 2 _ (by simp), ih, if_pos rfl, fone_a _ _ (by decide), flagW_ofInt]
  have hs1 : sm (x.toNat : Int) = true := sm_yes (by omega) (by omega)
  have hs2 : sm (altB (y :: l)) = true := sm_yes (by omega) (by omega)
  have hs3 : sm ((x.toNat : Int) - altB (y :: l)) = true := sm_yes (by omega) (by omega)
  have hw : whA 2 (x.toNat : Int) (altB (y :: l)) = ((x.toNat : Int) - altB (y :: l), true) := by
   generalize altB (y :: l) = z at *
   simp [whA, hs3]
  have h9 := (whA_one (f := 2) hs1 hs2 (by rw [hw])).1
  rw [h9, nrm_ok rfl, hw]
  rfl
/-- How many are true less how many are false, of a mask: what 'counted' tells of a row. -/
def cntI (r m : List Bool) : Int := 2 * (cnt (sq (List.zipWith (tab 8) r m)) r.length : Int) - (cnt (sq r) r.length : Int)
theorem cntI_cons (x y : Bool) (r m : List Bool) (h : r.length = m.length) : cntI (x :: r) (y :: m) = (if y then (x.toNat : Int) else -(x.toNat : Int)) + cntI r m := by
 have e8 : tab 8 x y = (x && y) := by cases x <;> cases y <;> decide
 have q : ∀ (a : Bool) (l : List Bool) k, sq (a :: l) (k + 1) = sq l k := fun a l k => by simp [sq]
 have q0 : ∀ (a : Bool) (l : List Bool), sq (a :: l) 0 = a := fun a l => by simp [sq]
 unfold cntI
 rw [List.zipWith_cons_cons, List.length_cons, cnt_cons, cnt_cons, q0, q0, e8]
 rw [show (fun k => sq (((x && y) :: List.zipWith (tab 8) r m)) (k + 1)) = sq (List.zipWith (tab 8) r m) from funext fun k => q _ _ k, show (fun k => sq (x :: r) (k + 1)) = sq r from funext fun k => q _ _ k]
 cases x <;> cases y <;> simp <;> omega
theorem cntI_sum : ∀ r : List Bool, cntI r (List.replicate r.length true) = sumB r
 | [] => by decide
 | x :: r => by
  rw [List.length_cons, List.replicate_succ, cntI_cons x true r _ (by simp), cntI_sum r]
  rfl
/-- Every second one, this one first or not. -/
def altM (b : Bool) (n : Nat) : List Bool := (List.range n).map fun k => if k % 2 = 0 then b else !b
theorem altM_succ (b : Bool) (n : Nat) : altM b (n + 1) = b :: altM (!b) n := by
 unfold altM
 rw [List.range_succ_eq_map, List.map_cons, List.map_map]
 congr 1
 apply List.map_congr_left
 intro k _
 show (if (k + 1) % 2 = 0 then b else !b) = if k % 2 = 0 then !b else !!b
 by_cases h : k % 2 = 0
 ·rw [if_pos h, if_neg (by omega)]
 ·rw [if_neg h, if_pos (by omega)]; simp
theorem cntI_alt : ∀ r : List Bool, cntI r (altM true r.length) = altB r ∧ cntI r (altM false r.length) = -altB r
 | [] => by decide
 | x :: r => by
  obtain ⟨h1, h2⟩ := cntI_alt r
  rw [List.length_cons, altM_succ, altM_succ, cntI_cons x true r _ (by simp [altM]), cntI_cons x false r _ (by simp [altM])]
  simp only [Bool.not_true, Bool.not_false, h1, h2, altB]
  exact ⟨rfl, by simp only [Bool.false_eq_true, if_false]; omega⟩
theorem pfx_true : ∀ n, pfx (sq (List.replicate n true)) n = decide (n % 2 = 1) := by
 have : ∀ m n, m ≤ n → pfx (sq (List.replicate n true)) m = decide (m % 2 = 1) := by
  intro m
  induction m with
  | zero => intro n _; rfl
  | succ m ih =>
   intro n h
   have e : sq (List.replicate n true) m = true := by rw [sq_in (by simp; omega)]; simp
   rw [pfx, ih n (by omega), e]
   by_cases h2 : m % 2 = 1
   ·rw [decide_eq_true h2, decide_eq_false (by omega)]; rfl
   ·rw [decide_eq_false h2, decide_eq_true (by omega)]; rfl
 exact fun n => this n n (Nat.le_refl _)
theorem parity_alt (n : Nat) : ((List.range (List.replicate n true).length).map fun k => pfx (sq (List.replicate n true)) (k + 1)) = altM true n := by
 rw [List.length_replicate]
 unfold altM
 apply List.map_congr_left
 intro k hk
 have hk : k < n := List.mem_range.1 hk
 have : pfx (sq (List.replicate n true)) (k + 1) = pfx (sq (List.replicate (k + 1) true)) (k + 1) := pfx_congr _ fun j hj => by
  rw [sq_in (by simp; omega), sq_in (by simp; omega)]; simp
 rw [this, pfx_true]
 by_cases h : k % 2 = 0
 ·rw [if_pos h, decide_eq_true (by omega)]
 ·rw [if_neg h, decide_eq_false (by omega)]; rfl
def outC (p m : List Bool) (outer n : Nat) : List Int := (List.range outer).map fun o => cntI (lineG false p n 1 o 0) m
theorem outC_len (p m : List Bool) (outer n : Nat) : (outC p m outer n).length = outer := by simp [outC]
theorem rows_count {f : Int} {m : List Bool} (p : List Bool) (outer n : Nat) (hn : 0 < n) (hn2 : n ≤ 1048576) (h : (f = 1 ∧ m = List.replicate n true) ∨ (f = 2 ∧ m = altM true n)) :
  errG (rowN f) (rowsL (p.map flagW) outer n 1) = 0 ∧ outG (rowN f) (rowsL (p.map flagW) outer n 1) = (outC p m outer n).map (floatOfInt .f64) ∧ ∀ z ∈ outC p m outer n, sm z = true := by
 have hl : ∀ o, (lineG false p n 1 o 0).length = n := fun o => lineG_len false p n 1 o 0
 have hne : ∀ o, lineG false p n 1 o 0 ≠ [] := fun o h => by have := hl o; rw [h] at this; simp at this; omega
 have e : ∀ o, rowN f (lineG 0 (p.map flagW) n 1 o 0) = (floatOfInt .f64 (cntI (lineG false p n 1 o 0) m), 0) ∧ sm (cntI (lineG false p n 1 o 0) m) = true := fun o => by
  rw [show lineG 0 (p.map flagW) n 1 o 0 = (lineG false p n 1 o 0).map flagW from lineG_map flagW false p n 1 o 0]
  rcases h with ⟨rfl, rfl⟩ | ⟨rfl, rfl⟩
  ·rw [rowN_sum _ (hne o) (by rw [hl]; exact hn2), show List.replicate n true = List.replicate (lineG false p n 1 o 0).length true by rw [hl], cntI_sum]
   have bd := sumB_bd (lineG false p n 1 o 0)
   rw [hl] at bd
   exact ⟨rfl, sm_yes (by omega) (by omega)⟩
  ·rw [rowN_alt _ (hne o) (by rw [hl]; exact hn2), show altM true n = altM true (lineG false p n 1 o 0).length by rw [hl], (cntI_alt _).1]
   have bd := altB_bd (lineG false p n 1 o 0)
   rw [hl] at bd
   exact ⟨rfl, sm_yes (by omega) (by omega)⟩
 refine ⟨errG_all fun r hr => ?_, ?_, ?_⟩
 ·obtain ⟨q, _, rfl⟩ := List.mem_map.1 hr
  rw [Nat.div_one, Nat.mod_one, (e q).1]
 ·unfold outG rowsL outC
  rw [List.map_map, List.map_map, Nat.mul_one]
  exact List.map_congr_left fun q _ => by
   show (rowN f (lineG 0 (p.map flagW) n 1 (q / 1) (q % 1))).1 = floatOfInt .f64 (cntI (lineG false p n 1 q 0) m)
   rw [Nat.div_one, Nat.mod_one, (e q).1]
 ·intro z hz
  obtain ⟨o, _, rfl⟩ := List.mem_map.1 hz
  exact (e o).2
end Go.Proofs.YtghojndkcndjbaaGreatDoor

/- Layer 13, walked: tableOf of package fold. -/
namespace Go.Proofs.YtghojndkcndjbaaGreatDoor
set_option maxRecDepth 100000
open Go.RowKit Fl
set_option linter.unusedVariables false

theorem tb_low {t k j : Nat} (h : j < k) : (t ||| 2 ^ k).testBit j = t.testBit j := by
 rw [Nat.testBit_or, Nat.testBit_two_pow]
 have : decide (k = j) = false := decide_eq_false (by omega)
 rw [this, Bool.or_false]
theorem tb_at {t k : Nat} : (t ||| 2 ^ k).testBit k = true := by
 rw [Nat.testBit_or, Nat.testBit_two_pow]; simp
theorem isT_flagW {x : Nat} (hx : Num x) (h : isT x = true) : x = flagW (bitW x) := by
 have hp := pw_pos 1074
 have h := h
 simp only [isT, Bool.or_eq_true, decide_eq_true_eq] at h
 refine V_inj hx (flagW_num _) ?_
 rw [V_flagW]
 unfold bitW
 rcases h with h | h
 ·rw [decide_eq_false (by rw [h]; omega)]; simpa using h
 ·rw [decide_eq_true h]; simpa using h
theorem closed_of {f : Int} {t : Nat} (h : ∀ j, j < 4 → fone f (flagW (decide (j / 2 = 1))) (flagW (decide (j % 2 = 1))) = (flagW (t.testBit j), 0)) : Closed f t := by
 intro a b
 cases a <;> cases b
 ·exact h 0 (by omega)
 ·exact h 1 (by omega)
 ·exact h 2 (by omega)
 ·exact h 3 (by omega)
theorem tb_high {t k : Nat} (h : t < 2 ^ k) : t.testBit k = false := Nat.testBit_lt_two_pow h
set_option maxHeartbeats 4000000 in
theorem fotable_calls (f : Int) (w : World) :
  Calls Tryz.prog 104 #[.int .i64 f] w fun e w' => ∃ (t : Nat) (c : Bool), e = .returned (.tuple #[.int .u8 (t : Int), .bool c]) ∧ (c = true → t < 256 ∧ Closed f t) ∧ Below w.heap.size w w' := by
 go_enter Tryz.func104, Tryz.ntmps104
 go_wp2
 go_loopw [4, 10] (fun t i wr => ∃ k t0 : Nat, k ≤ 4 ∧ i = .int .i64 k ∧ t = .int .u8 t0 ∧ t0 < 2 ^ k ∧ (∀ j, j < k → fone f (flagW (decide (j / 2 = 1))) (flagW (decide (j % 2 = 1))) = (flagW (t0.testBit j), 0)) ∧ Below w.heap.size w wr) (fun _ i _ => 4 - (intOf i).toNat)
 case atStart => exact ⟨0, 0, by omega, rfl, rfl, by decide, fun j hj => by omega, Below.refl _ _⟩
 case round =>
  obtain ⟨k, t0, hk, rfl, rfl, ht, hall, hB⟩ := hrel
  have HT := Lib.hid ht; have HA := Lib.hid hall; have HB := Lib.hid hB; clear ht hall hB
  by_cases hlt : k < 4
  ·obtain ⟨a, ha⟩ : ∃ a, decide (k / 2 = 1) = a := ⟨_, rfl⟩
   obtain ⟨b, hb⟩ : ∃ b, decide (k % 2 = 1) = b := ⟨_, rfl⟩
   have HAB := Lib.hid (And.intro ha hb)
   have F1 := Lib.hid (show floatOfInt .f64 ((k : Int) / 2) = flagW a by
    rw [flagW_ofInt, ← ha]; congr 1
    by_cases h : k / 2 = 1
    ·rw [decide_eq_true h]; simp; omega
    ·rw [decide_eq_false h]; simp; omega)
   have F2 := Lib.hid (show floatOfInt .f64 ((k : Int) % 2) = flagW b by
    rw [flagW_ofInt, ← hb]; congr 1
    by_cases h : k % 2 = 1
    ·rw [decide_eq_true h]; simp; omega
    ·rw [decide_eq_false h]; simp; omega)
   have NA := Lib.hid (flagW_num a)
   have NB := Lib.hid (flagW_num b)
   have HK := Lib.hid hlt; clear ha hb
   go_wp2_with fail
   rw [F1.out, F2.out]
   refine (foone_calls f (flagW a) (flagW b) _ NA.out NB.out).mono ?_
   rintro e W9 ⟨rfl, m, hm⟩
   obtain ⟨p, hp⟩ : ∃ p, fone f (flagW a) (flagW b) = p := ⟨_, rfl⟩
   have HP := Lib.hid hp
   have HPN := Lib.hid (show Num p.1 by rw [← hp]; exact fone_num NA.out NB.out)
   have HPF := Lib.hid HPN.out.1
   have HB9 := Lib.hid (show Below w.heap.size w W9 by rw [hm]; exact Below.drewN' HB.out m)
   rw [hp]; clear hp hm
   obtain ⟨er, her⟩ : ∃ er, p.2 = er := ⟨_, rfl⟩
   have HER := Lib.hid her; rw [her]; clear her
   by_cases h0 : er = 0
   ·subst h0
    cases ht : isT p.1
    ·have HTT := Lib.hid ht; clear ht
     go_wp2_with ((with_reducible refine (truth_is p.1 _ HPF.out).mono ?_); rintro e w' ⟨rfl, rfl⟩; rw [HTT.out])
     go_ret2
     exact ⟨0, false, rfl, (fun h => nomatch h), HB9.out⟩
    ·have HTT := Lib.hid ht
     cases hbw : bitW p.1
     ·have HBW := Lib.hid hbw
      have HN := Lib.hid (show ∀ j, j < k + 1 → fone f (flagW (decide (j / 2 = 1))) (flagW (decide (j % 2 = 1))) = (flagW (t0.testBit j), 0) from fun j hj => by
       by_cases h9 : j = k
       ·subst h9
        rw [HAB.out.1, HAB.out.2, HP.out, tb_high HT.out, ← hbw]
        exact Prod.ext (isT_flagW HPN.out ht) HER.out
       ·exact HA.out j (by omega))
      clear ht hbw
      go_wp2_with ((with_reducible refine (truth_is p.1 _ HPF.out).mono ?_); rintro e w' ⟨rfl, rfl⟩; rw [HTT.out, HBW.out])
      go_roundw
      case rel => exact ⟨k + 1, t0, by omega, by go_num, rfl, by have := HT.out; rw [Nat.pow_succ]; omega, HN.out, HB9.out⟩
      case measure => simp [intOf]; omega
     ·have HBW := Lib.hid hbw
      have HN := Lib.hid (show ∀ j, j < k + 1 → fone f (flagW (decide (j / 2 = 1))) (flagW (decide (j % 2 = 1))) = (flagW ((t0 ||| 2 ^ k).testBit j), 0) from fun j hj => by
       by_cases h9 : j = k
       ·subst h9
        rw [HAB.out.1, HAB.out.2, HP.out, tb_at, ← hbw]
        exact Prod.ext (isT_flagW HPN.out ht) HER.out
       ·rw [tb_low (by omega)]; exact HA.out j (by omega))
      have HOR := Lib.hid (show bits BinOp.or IntKind.u8 (t0 : Int) (2 ^ k % 256 : Int) = ((t0 ||| 2 ^ k : Nat) : Int) by
       have h2 : (2 : Nat) ^ k ≤ 2 ^ 3 := Nat.pow_le_pow_right (by decide) (by omega)
       have h1 := HT.out
       have e : (2 ^ k % 256 : Int) = ((2 ^ k : Nat) : Int) := by
        have : ((2 ^ k : Nat) : Int) = (2 : Int) ^ k := by simp
        omega
       rw [e]
       exact u8_or_nat _ _ (by omega) (by omega))
      clear ht hbw
      go_wp2_with ((with_reducible refine (truth_is p.1 _ HPF.out).mono ?_); rintro e w' ⟨rfl, rfl⟩; rw [HTT.out, HBW.out])
      rw [HOR.out]
      go_roundw
      case rel => exact ⟨k + 1, t0 ||| 2 ^ k, by omega, by go_num, rfl, Nat.or_lt_two_pow (by have := HT.out; rw [Nat.pow_succ]; omega) (Nat.pow_lt_pow_right (by decide) (by omega)), HN.out, HB9.out⟩
      case measure => simp [intOf]; omega
   ·have hne : (er != 0) = true := by simp [h0]
    obtain ⟨tt, htt⟩ : ∃ tt, isT p.1 = tt := ⟨_, rfl⟩
    have HTT := Lib.hid htt; clear h0 htt
    go_wp2_with ((with_reducible refine (truth_is p.1 _ HPF.out).mono ?_); rintro e w' ⟨rfl, rfl⟩; rw [HTT.out])
    go_ret2
    exact ⟨0, false, rfl, (fun h => nomatch h), HB9.out⟩
  ·have hk4 : k = 4 := by omega
   subst hk4
   go_wp2
   go_ret2
   exact ⟨t0, true, rfl, fun _ => ⟨by have := HT.out; omega, closed_of HA.out⟩, HB.out⟩
end Go.Proofs.YtghojndkcndjbaaGreatDoor

/- Layer 13, walked: piece, sized of package fold. -/
namespace Go.Proofs.YtghojndkcndjbaaGreatDoor
set_option maxRecDepth 100000
open Go.RowKit Fl
set_option linter.unusedVariables false

set_option maxHeartbeats 4000000 in
theorem fosized_calls (outer n inner : Nat) (w : World) (h : outer * n * inner ≤ 1048576) (hn : n ≤ 1048576) (hi : inner ≤ 1048576) (ho : outer ≤ 1048576) (hoi : outer * inner ≤ 1048576) :
  Calls Tryz.prog 53 #[.int .i64 ((outer * n * inner : Nat) : Int), .int .i64 (outer : Int), .int .i64 (n : Int), .int .i64 (inner : Int)] w fun e w' => e = .returned (.bool true) ∧ w = w' := by
 obtain ⟨D, hD⟩ : ∃ D, outer * inner = D := ⟨_, rfl⟩
 obtain ⟨B, hB⟩ : ∃ B, outer * n = B := ⟨_, rfl⟩
 obtain ⟨C, hC⟩ : ∃ C, B * inner = C := ⟨_, rfl⟩
 have hb : B ≤ 1099511627776 := by rw [← hB]; exact Nat.mul_le_mul ho hn
 rw [hB, hC] at h ⊢
 rw [hD] at hoi
 have q1 : IntKind.i64.wrap ((outer : Int) * (inner : Int)) = (D : Int) := by rw [← Int.natCast_mul, hD]; exact IntWalk.i64_in _ (by omega)
 have q2 : IntKind.i64.wrap ((outer : Int) * (n : Int)) = (B : Int) := by rw [← Int.natCast_mul, hB]; exact IntWalk.i64_in _ (by omega)
 have q3 : IntKind.i64.wrap ((B : Int) * (inner : Int)) = (C : Int) := by rw [← Int.natCast_mul, hC]; exact IntWalk.i64_in _ (by omega)
 clear hD hB hC
 go_enter Tryz.func53, Tryz.ntmps53
 go_wp2
 all_goals
  go_ret
  exact ⟨rfl, rfl⟩
set_option maxHeartbeats 4000000 in
theorem fopiece_calls (v : Value) (l : List Bool) (i len x y : Nat) (w : World) (hv : IsBits w v l) (hl : l.length ≤ 1048576) (hp : 0 < len) (hx : i * len = x) (hy : (i + 1) * len = y) (hyl : y ≤ l.length) :
  Calls Tryz.prog 143 #[v, .int .i64 (i : Int), .int .i64 (len : Int)] w fun e w' => ∃ v', e = .returned v' ∧ IsBits w' v' ((l.take y).drop x) ∧ Below w.heap.size w w' := by
 have HV := Lib.hid hv; have HL := Lib.hid hl
 have hxy : x + len = y := by rw [← hx, ← hy, Nat.add_mul]; omega
 have hil : i ≤ x := by rw [← hx]; exact Nat.le_mul_of_pos_right _ hp
 have hiw : i ≤ 1048576 := by omega
 have q1 : IntKind.i64.wrap ((i : Int) * (len : Int)) = (x : Int) := by rw [← Int.natCast_mul, hx]; exact IntWalk.i64_in _ (by omega)
 have q2 : IntKind.i64.wrap (((i : Int) + 1) * (len : Int)) = (y : Int) := by
  rw [show ((i : Int) + 1) * (len : Int) = ((y : Nat) : Int) by rw [← hy]; simp]; exact IntWalk.i64_in _ (by omega)
 obtain ⟨ao, cap, rfl, hcx⟩ := hv.opened
 obtain ⟨L, hL⟩ : ∃ L, (l.length + 63) / 64 = L := ⟨_, rfl⟩
 rw [hL] at HV ⊢
 obtain ⟨W1, hW1⟩ : ∃ W1, W1 = (w.alloc (.cells #[.int .i64 l.length, .slice ao L cap] 74)).alloc (.cells #[.int .i64 0, .slice none 0 0] 74) := ⟨_, rfl⟩
 have HA := Lib.hid (show At2 W1 w.heap.size (.int .i64 l.length) (.slice ao L cap) by rw [hW1]; exact (At2.new _ _ _ _).alloc _)
 have HR := Lib.hid (show At2 W1 (w.heap.size + 1) (.int .i64 0) (.slice none 0 0) by
  rw [hW1]; have := At2.new (w.alloc (.cells #[.int .i64 l.length, .slice ao L cap] 74)) (.int .i64 0) (.slice none 0 0) 74; simpa using this)
 have HB := Lib.hid (show Below w.heap.size w W1 by rw [hW1]; exact ((Below.refl _ _).alloc (Nat.le_refl _) _).alloc (by simp) _)
 replace HV := Lib.hid (HV.out.keep (keep_below HB.out))
 have HX := Lib.hid (show min (max (x : Int) 0) l.length = (x : Int) by omega)
 have HY := Lib.hid (show min (max (y : Int) 0) l.length = (y : Int) by omega)
 have HXY := Lib.hid (show x < y by omega)
 have hfold := hW1.symm
 clear hcx hL hv hl hW1 hx hy hxy hyl hil hp; have cHA0 := HA.out.2.1; have cHA1 := HA.out.2.2.1; have cHR0 := HR.out.2.1; have cHR1 := HR.out.2.2.1; have zHR0 := HR.out.2.2.2 0; have zHR1 := HR.out.2.2.2 1
 go_enter Tryz.func143, Tryz.ntmps143
 go_wp2_with fail
 clear hfold
 refine (cut_some _ l _ _ _ HV.out HL.out x y HX.out HY.out HXY.out).mono ?_
 rintro e W4 ⟨v4, rfl, hv4, hB⟩
 have HB4 := Lib.hid (HB.out.trans (hB.mono HB.out.size))
 have HR4 := Lib.hid (HR.out.below hB)
 have HV4 := Lib.hid hv4; clear cHA0 cHA1 cHR0 cHR1 zHR0 zHR1 hB hv4; have cHR0 := HR4.out.2.1; have cHR1 := HR4.out.2.2.1; have zHR0 := HR4.out.2.2.2 0; have zHR1 := HR4.out.2.2.2 1
 obtain ⟨n4, hn4⟩ : ∃ n4, ((l.take y).drop x).length = n4 := ⟨_, rfl⟩
 obtain ⟨ao4, cap4, rfl, _⟩ := HV4.out.opened
 rw [hn4] at *
 go_wp2_with fail
 have hq := at2_put HR4.out (.int .i64 n4) (.slice ao4 ((n4 + 63) / 64) cap4)
 have q0 := hq.2.1
 have q1 := hq.2.2.1
 have HB5 := Lib.hid (below_setc HB4.out (show w.heap.size ≤ w.heap.size + 1 by omega) (.int .i64 n4) (.slice ao4 ((n4 + 63) / 64) cap4))
 refine bodyPost_ret (v := .agg #[.int .i64 n4, .slice ao4 ((n4 + 63) / 64) cap4]) (by simp [results, Tryz.results143, go_sem, q0, q1]) rfl ⟨_, rfl, ?_, HB5.out⟩
 exact HV4.out.set2 HR4.out (.int .i64 n4) (.slice ao4 ((n4 + 63) / 64) cap4)
end Go.Proofs.YtghojndkcndjbaaGreatDoor

/- Layer 13, walked: ofRows of package fold. -/
namespace Go.Proofs.YtghojndkcndjbaaGreatDoor
set_option maxRecDepth 100000
open Go.RowKit Fl
set_option linter.unusedVariables false

theorem zip_rep (t : Nat) (p : List Bool) (b : Bool) : List.zipWith (tab t) p (List.replicate p.length b) = p.map fun x => tab t x b := by
 apply List.ext_getElem (by simp)
 intro i h1 h2
 simp
theorem zip_sett (t : Nat) (p : List Bool) : List.zipWith (tab 9) (p.map fun x => tab t x false) (p.map fun x => tab t x true) = p.map (settB t) := by
 apply List.ext_getElem (by simp)
 intro i h1 h2
 simp only [List.getElem_zipWith, List.getElem_map, settB]
 cases tab t _ false <;> cases tab t _ true <;> decide
theorem zip_flip (t : Nat) (p : List Bool) : List.zipWith (tab 4) (p.map fun x => tab t x false) (p.map fun x => tab t x true) = p.map (flipB t) := by
 apply List.ext_getElem (by simp)
 intro i h1 h2
 simp only [List.getElem_zipWith, List.getElem_map, flipB]
 cases tab t _ false <;> cases tab t _ true <;> decide
set_option maxHeartbeats 8000000 in
theorem forows_calls (t : Nat) (v : Value) (l : List Bool) (outer n : Nat) (w : World) (hv : IsBits w v l) (ht : t < 256) (hl : l.length ≤ 1048576) (hll : l.length = outer * n) (hn : 0 < n) (hno : n ≤ 1048576) (hT : TabAt w) :
  Calls Tryz.prog 106 #[.int .u8 (t : Int), v, .int .i64 (outer : Int), .int .i64 (n : Int)] w fun e w' => ∃ v', e = .returned v' ∧ IsBitsX w' (fun b => w.heap.size + 2 ≤ b) v' (outB t l outer n 1) ∧ Below w.heap.size w w' := by
 have HL := Lib.hid hl; have HLL := Lib.hid hll; have HT := Lib.hid ht; have HN := Lib.hid hn; have HNO := Lib.hid hno
 have HOM := Lib.hid (show outer ≤ 1048576 by have := Nat.le_mul_of_pos_right outer hn; omega)
 obtain ⟨m, hm⟩ : ∃ m, l.length = m := ⟨_, rfl⟩
 obtain ⟨ao, cap, rfl, hcx⟩ := hv.opened
 have HV := Lib.hid hv
 rw [hm] at HV ⊢
 have HM := Lib.hid hm
 obtain ⟨L, hL⟩ : ∃ L, (m + 63) / 64 = L := ⟨_, rfl⟩
 rw [hL] at HV ⊢
 obtain ⟨W1, hW1⟩ : ∃ W1, W1 = (w.alloc (.cells #[.int .i64 m, .slice ao L cap] 74)).alloc (.cells #[.int .i64 0, .slice none 0 0] 74) := ⟨_, rfl⟩
 have HA := Lib.hid (show At2 W1 w.heap.size (.int .i64 m) (.slice ao L cap) by rw [hW1]; exact (At2.new _ _ _ _).alloc _)
 have HR := Lib.hid (show At2 W1 (w.heap.size + 1) (.int .i64 0) (.slice none 0 0) by
  rw [hW1]; have := At2.new (w.alloc (.cells #[.int .i64 m, .slice ao L cap] 74)) (.int .i64 0) (.slice none 0 0) 74; simpa using this)
 have HB := Lib.hid (show Below w.heap.size w W1 by rw [hW1]; exact ((Below.refl _ _).alloc (Nat.le_refl _) _).alloc (by simp) _)
 replace HV := Lib.hid (HV.out.keep (keep_below HB.out))
 have HTB := Lib.hid (show TabAt W1 from fun j hj => keep_below HB.out _ _ (hT j hj))
 have hfold := hW1.symm
 clear hcx hL hv hl hll ht hn hno hT hW1 hm
 obtain ⟨lo, hlo⟩ : ∃ lo, (l.map fun x => tab t x false) = lo := ⟨_, rfl⟩
 obtain ⟨hi, hhi⟩ : ∃ hi, (l.map fun x => tab t x true) = hi := ⟨_, rfl⟩
 obtain ⟨se, hse⟩ : ∃ se, l.map (settB t) = se := ⟨_, rfl⟩
 obtain ⟨fl, hfl⟩ : ∃ fl, l.map (flipB t) = fl := ⟨_, rfl⟩
 have HLO := Lib.hid (show List.zipWith (tab t) l (List.replicate m false) = lo by rw [← HM.out, zip_rep, hlo])
 have HHI := Lib.hid (show List.zipWith (tab t) l (List.replicate m true) = hi by rw [← HM.out, zip_rep, hhi])
 have HSE := Lib.hid (show List.zipWith (tab 9) lo hi = se by rw [← hlo, ← hhi, zip_sett, hse])
 have HFL := Lib.hid (show List.zipWith (tab 4) lo hi = fl by rw [← hlo, ← hhi, zip_flip, hfl])
 have HLOM := Lib.hid (show lo.length = m by rw [← hlo, List.length_map, HM.out])
 have HHIM := Lib.hid (show hi.length = m by rw [← hhi, List.length_map, HM.out])
 have HSEM := Lib.hid (show se.length = m by rw [← hse, List.length_map, HM.out])
 have HFLM := Lib.hid (show fl.length = m by rw [← hfl, List.length_map, HM.out])
 have HLX := Lib.hid hlo; have HSX := Lib.hid hse; have HFX := Lib.hid hfl
 have HMM := Lib.hid (show m ≤ 1048576 by rw [← HM.out]; exact HL.out)
 have HMK := Lib.hid (show min (max (m : Int) 0) 1048576 = (m : Int) by have := HMM.out; omega)
 clear hlo hhi hse hfl; have cHA0 := HA.out.2.1; have cHA1 := HA.out.2.2.1; have cHR0 := HR.out.2.1; have cHR1 := HR.out.2.2.1; have zHR0 := HR.out.2.2.2 0; have zHR1 := HR.out.2.2.2 1
 go_enter Tryz.func106, Tryz.ntmps106
 go_wp2_with fail
 clear hfold; clear cHA0 cHA1 cHR0 cHR1 zHR0 zHR1
 refine wp_mid (fun s0 s1 w' => ∃ (vmk : Value) (alo : Option Addr) (clo rlo : Nat), s1 = (((((((((((s0.put (some 24) (.int .u8 (t : Int))).put (some 25) (.agg #[.int .i64 m, .slice ao L cap])).put (some 26) (.agg #[.int .i64 m, .slice ao L cap])).put (some 27) (.int .i64 (m : Int))).put (some 28) vmk).put (some 29) (.tuple #[(.agg #[.int .i64 lo.length, .slice alo ((lo.length + 63) / 64) clo]), .bool true])).put (some 23) (.tuple #[(.agg #[.int .i64 lo.length, .slice alo ((lo.length + 63) / 64) clo]), .bool true])).put (some 30) (.agg #[.int .i64 lo.length, .slice alo ((lo.length + 63) / 64) clo])).put (some 31) (.bool true)).put (some 9) (.pointer (some ⟨rlo, 0, none⟩))).put (some 10) (.bool true)) ∧ IsBits w' (.agg #[.int .i64 lo.length, .slice alo ((lo.length + 63) / 64) clo]) lo ∧ At2 w' rlo (.int .i64 lo.length) (.slice alo ((lo.length + 63) / 64) clo) ∧ W1.heap.size ≤ rlo ∧ Below W1.heap.size W1 w') ?_ ?_
 ·have HW0 := Lib.hid (Below.refl W1.heap.size W1)
  have HAS := HA
  obtain ⟨W11, hWD, hB⟩ := drwn W1
  replace HV := HV.go hB; replace HA := HA.go hB; replace HW0 := cb hB HW0; clear hB
  refine rgn (S := fun w' => w'.cell? ⟨w.heap.size, 0, none⟩ = some (.int .i64 m) ∧ w'.cell? ⟨w.heap.size, 1, none⟩ = some (.slice ao L cap)) hWD ⟨HA.out.2.1, HA.out.2.2.1⟩ (fun hHeld => ?_)
  clear hWD; apply tm 0; apply tm 1; apply tm 2
  refine wpAnyH_ready (rs := [3, 9]) (by kernel_rfl) (by simp) ?_
  refine AllReadyH.cons (o := _) rfl (fun K hK => ?_) ?_
  ·clear hHeld; go_simp
   refine (len_calls _ l _ HV.out).mono ?_
   rintro e W12 ⟨rfl, hB⟩
   replace HV := HV.go hB; replace HA := HA.go hB; replace HW0 := cb hB HW0; rw [HM.out]; clear hB
   refine hK.out _ _ ⟨HA.out.2.1, HA.out.2.2.1⟩ (fun hHeld => ?_)
   clear hK K
   refine wpAnyH_ready (rs := [4, 9]) (by kernel_rfl) (by simp) ?_
   refine AllReadyH.cons (o := _) rfl (fun K hK => ?_) ?_
   ·clear hHeld; go_simp
    refine (make_calls _ false m HMK.out _).mono ?_
    rintro e W13 ⟨vmk, rfl, hmk, hB⟩
    replace HV := HV.go hB; replace HA := HA.go hB; replace HW0 := cb hB HW0; have Hmk := Lib.hid hmk; clear hmk; clear hB
    refine hK.out _ _ ⟨HA.out.2.1, HA.out.2.2.1⟩ (fun hHeld => ?_)
    clear hK K
    refine wpAnyH_ready (rs := [5, 9]) (by kernel_rfl) (by simp) ?_
    refine AllReadyH.cons (o := _) rfl (fun K hK => ?_) ?_
    ·clear hHeld; go_simp
     refine (truth_yes t HT.out _ vmk l (List.replicate m false) _ HV.out Hmk.out (by rw [List.length_replicate]; exact HM.out) HL.out).mono ?_
     rintro e W14 ⟨vlo, rfl, hlo, hB⟩
     replace HV := HV.go hB; replace HA := HA.go hB; replace HW0 := cb hB HW0; replace Hmk := Hmk.go hB
     rw [HLO.out] at hlo
     have Hlo := Lib.hid hlo
     obtain ⟨alo, clo, rfl, hclo⟩ := hlo.opened
     clear hlo hclo; clear hB
     refine hK.out _ _ ⟨HA.out.2.1, HA.out.2.2.1⟩ (fun hHeld => ?_)
     clear hK K; apply tm 6; apply tm 7; apply tm 8
     apply rdy 9; intro K hK; clear hHeld; go_simp
     obtain ⟨W15, hWn, hB, hNB⟩ := ahd2 W14 (.int .i64 0) (.slice none 0 0) 74
     have hbk : W1.heap.size ≤ W14.heap.size := HW0.out.size
     rw [hWn]; clear hWn
     obtain ⟨rlo, hnm⟩ : ∃ x, W14.heap.size = x := ⟨_, rfl⟩
     rw [hnm] at hNB hbk ⊢
     replace HV := HV.go hB; replace HA := HA.go hB; replace HW0 := cb hB HW0; replace Hmk := Hmk.go hB; replace Hlo := Hlo.go hB; have HRV := Lib.hid hNB; have HBK := Lib.hid hbk; clear hNB hB hnm hbk
     refine hK.out _ _ ⟨HA.out.2.1, HA.out.2.2.1⟩ (fun hHeld => ?_)
     clear hK K
     apply rdy 10; intro K hK; clear hHeld; have s0 := HRV.out.2.1; have t0 := HRV.out.2.2.2 0; have s1 := HRV.out.2.2.1; have t1 := HRV.out.2.2.2 1; go_simp; clear s0 t0 s1 t1
     obtain ⟨W16, hWn⟩ : ∃ xw9, (W15.setCell ⟨rlo, 0, none⟩ (.int .i64 lo.length)).setCell ⟨rlo, 1, none⟩ (.slice alo ((lo.length + 63) / 64) clo) = xw9 := ⟨_, rfl⟩
     rw [hWn]
     replace Hlo := Lib.hid (show IsBits W16 (.agg #[.int .i64 lo.length, .slice alo ((lo.length + 63) / 64) clo]) lo by rw [← hWn]; exact Hlo.out.set2 HRV.out _ _)
     replace HRV := Lib.hid (show At2 W16 rlo (.int .i64 lo.length) (.slice alo ((lo.length + 63) / 64) clo) by rw [← hWn]; exact at2_put HRV.out _ _)
     replace HW0 := Lib.hid (show Below W1.heap.size W1 W16 by rw [← hWn]; exact below_setc HW0.out HBK.out _ _)
     replace HA := Lib.hid (show At2 W16 w.heap.size (.int .i64 m) (.slice ao L cap) from HAS.out.below HW0.out)
     clear hWn
     refine hK.out _ _ ⟨HA.out.2.1, HA.out.2.2.1⟩ (fun hHeld => ?_)
     clear hK K; apply tm 11
     refine wpAnyH_done (by kernel_rfl) ?_ _
     clear hHeld
     refine ⟨rfl, vmk, alo, clo, rlo, ?_, Hlo.out, HRV.out, HBK.out, HW0.out⟩
     try simp only [Act.put, List.setIfInBounds_toArray, List.set_cons_zero, List.set_cons_succ]
     all_goals first | rfl | kernel_rfl
    refine AllReadyH.cons (o := _) rfl (fun K hK => ?_) ?_
    ·clear hHeld; go_simp
     obtain ⟨W14, hWn, hB, hNB⟩ := ahd2 W13 (.int .i64 0) (.slice none 0 0) 74
     have hbk : W1.heap.size ≤ W13.heap.size := HW0.out.size
     rw [hWn]; clear hWn
     obtain ⟨rlo, hnm⟩ : ∃ x, W13.heap.size = x := ⟨_, rfl⟩
     rw [hnm] at hNB hbk ⊢
     replace HV := HV.go hB; replace HA := HA.go hB; replace HW0 := cb hB HW0; replace Hmk := Hmk.go hB; have HRV := Lib.hid hNB; have HBK := Lib.hid hbk; clear hNB hB hnm hbk
     refine hK.out _ _ ⟨HA.out.2.1, HA.out.2.2.1⟩ (fun hHeld => ?_)
     clear hK K
     apply rdy 5; intro K hK; clear hHeld; go_simp
     refine (truth_yes t HT.out _ vmk l (List.replicate m false) _ HV.out Hmk.out (by rw [List.length_replicate]; exact HM.out) HL.out).mono ?_
     rintro e W15 ⟨vlo, rfl, hlo, hB⟩
     replace HV := HV.go hB; replace HA := HA.go hB; replace HW0 := cb hB HW0; replace Hmk := Hmk.go hB; replace HRV := HRV.go hB
     rw [HLO.out] at hlo
     have Hlo := Lib.hid hlo
     obtain ⟨alo, clo, rfl, hclo⟩ := hlo.opened
     clear hlo hclo; clear hB
     refine hK.out _ _ ⟨HA.out.2.1, HA.out.2.2.1⟩ (fun hHeld => ?_)
     clear hK K; apply tm 6; apply tm 7; apply tm 8
     apply rdy 10; intro K hK; clear hHeld; have s0 := HRV.out.2.1; have t0 := HRV.out.2.2.2 0; have s1 := HRV.out.2.2.1; have t1 := HRV.out.2.2.2 1; go_simp; clear s0 t0 s1 t1
     obtain ⟨W16, hWn⟩ : ∃ xw9, (W15.setCell ⟨rlo, 0, none⟩ (.int .i64 lo.length)).setCell ⟨rlo, 1, none⟩ (.slice alo ((lo.length + 63) / 64) clo) = xw9 := ⟨_, rfl⟩
     rw [hWn]
     replace Hlo := Lib.hid (show IsBits W16 (.agg #[.int .i64 lo.length, .slice alo ((lo.length + 63) / 64) clo]) lo by rw [← hWn]; exact Hlo.out.set2 HRV.out _ _)
     replace HRV := Lib.hid (show At2 W16 rlo (.int .i64 lo.length) (.slice alo ((lo.length + 63) / 64) clo) by rw [← hWn]; exact at2_put HRV.out _ _)
     replace HW0 := Lib.hid (show Below W1.heap.size W1 W16 by rw [← hWn]; exact below_setc HW0.out HBK.out _ _)
     replace HA := Lib.hid (show At2 W16 w.heap.size (.int .i64 m) (.slice ao L cap) from HAS.out.below HW0.out)
     clear hWn
     refine hK.out _ _ ⟨HA.out.2.1, HA.out.2.2.1⟩ (fun hHeld => ?_)
     clear hK K; apply tm 11
     refine wpAnyH_done (by kernel_rfl) ?_ _
     clear hHeld
     refine ⟨rfl, vmk, alo, clo, rlo, ?_, Hlo.out, HRV.out, HBK.out, HW0.out⟩
     try simp only [Act.put, List.setIfInBounds_toArray, List.set_cons_zero, List.set_cons_succ]
     all_goals first | rfl | kernel_rfl
    exact AllReadyH.nil
   refine AllReadyH.cons (o := _) rfl (fun K hK => ?_) ?_
   ·clear hHeld; go_simp
    obtain ⟨W13, hWn, hB, hNB⟩ := ahd2 W12 (.int .i64 0) (.slice none 0 0) 74
    have hbk : W1.heap.size ≤ W12.heap.size := HW0.out.size
    rw [hWn]; clear hWn
    obtain ⟨rlo, hnm⟩ : ∃ x, W12.heap.size = x := ⟨_, rfl⟩
    rw [hnm] at hNB hbk ⊢
    replace HV := HV.go hB; replace HA := HA.go hB; replace HW0 := cb hB HW0; have HRV := Lib.hid hNB; have HBK := Lib.hid hbk; clear hNB hB hnm hbk
    refine hK.out _ _ ⟨HA.out.2.1, HA.out.2.2.1⟩ (fun hHeld => ?_)
    clear hK K
    apply rdy 4; intro K hK; clear hHeld; go_simp
    refine (make_calls _ false m HMK.out _).mono ?_
    rintro e W14 ⟨vmk, rfl, hmk, hB⟩
    replace HV := HV.go hB; replace HA := HA.go hB; replace HW0 := cb hB HW0; replace HRV := HRV.go hB; have Hmk := Lib.hid hmk; clear hmk; clear hB
    refine hK.out _ _ ⟨HA.out.2.1, HA.out.2.2.1⟩ (fun hHeld => ?_)
    clear hK K
    apply rdy 5; intro K hK; clear hHeld; go_simp
    refine (truth_yes t HT.out _ vmk l (List.replicate m false) _ HV.out Hmk.out (by rw [List.length_replicate]; exact HM.out) HL.out).mono ?_
    rintro e W15 ⟨vlo, rfl, hlo, hB⟩
    replace HV := HV.go hB; replace HA := HA.go hB; replace HW0 := cb hB HW0; replace HRV := HRV.go hB; replace Hmk := Hmk.go hB
    rw [HLO.out] at hlo
    have Hlo := Lib.hid hlo
    obtain ⟨alo, clo, rfl, hclo⟩ := hlo.opened
    clear hlo hclo; clear hB
    refine hK.out _ _ ⟨HA.out.2.1, HA.out.2.2.1⟩ (fun hHeld => ?_)
    clear hK K; apply tm 6; apply tm 7; apply tm 8
    apply rdy 10; intro K hK; clear hHeld; have s0 := HRV.out.2.1; have t0 := HRV.out.2.2.2 0; have s1 := HRV.out.2.2.1; have t1 := HRV.out.2.2.2 1; go_simp; clear s0 t0 s1 t1
    obtain ⟨W16, hWn⟩ : ∃ xw9, (W15.setCell ⟨rlo, 0, none⟩ (.int .i64 lo.length)).setCell ⟨rlo, 1, none⟩ (.slice alo ((lo.length + 63) / 64) clo) = xw9 := ⟨_, rfl⟩
    rw [hWn]
    replace Hlo := Lib.hid (show IsBits W16 (.agg #[.int .i64 lo.length, .slice alo ((lo.length + 63) / 64) clo]) lo by rw [← hWn]; exact Hlo.out.set2 HRV.out _ _)
    replace HRV := Lib.hid (show At2 W16 rlo (.int .i64 lo.length) (.slice alo ((lo.length + 63) / 64) clo) by rw [← hWn]; exact at2_put HRV.out _ _)
    replace HW0 := Lib.hid (show Below W1.heap.size W1 W16 by rw [← hWn]; exact below_setc HW0.out HBK.out _ _)
    replace HA := Lib.hid (show At2 W16 w.heap.size (.int .i64 m) (.slice ao L cap) from HAS.out.below HW0.out)
    clear hWn
    refine hK.out _ _ ⟨HA.out.2.1, HA.out.2.2.1⟩ (fun hHeld => ?_)
    clear hK K; apply tm 11
    refine wpAnyH_done (by kernel_rfl) ?_ _
    clear hHeld
    refine ⟨rfl, vmk, alo, clo, rlo, ?_, Hlo.out, HRV.out, HBK.out, HW0.out⟩
    try simp only [Act.put, List.setIfInBounds_toArray, List.set_cons_zero, List.set_cons_succ]
    all_goals first | rfl | kernel_rfl
   exact AllReadyH.nil
  refine AllReadyH.cons (o := _) rfl (fun K hK => ?_) ?_
  ·clear hHeld; go_simp
   obtain ⟨W12, hWn, hB, hNB⟩ := ahd2 W11 (.int .i64 0) (.slice none 0 0) 74
   have hbk : W1.heap.size ≤ W11.heap.size := HW0.out.size
   rw [hWn]; clear hWn
   obtain ⟨rlo, hnm⟩ : ∃ x, W11.heap.size = x := ⟨_, rfl⟩
   rw [hnm] at hNB hbk ⊢
   replace HV := HV.go hB; replace HA := HA.go hB; replace HW0 := cb hB HW0; have HRV := Lib.hid hNB; have HBK := Lib.hid hbk; clear hNB hB hnm hbk
   refine hK.out _ _ ⟨HA.out.2.1, HA.out.2.2.1⟩ (fun hHeld => ?_)
   clear hK K
   apply rdy 3; intro K hK; clear hHeld; go_simp
   refine (len_calls _ l _ HV.out).mono ?_
   rintro e W13 ⟨rfl, hB⟩
   replace HV := HV.go hB; replace HA := HA.go hB; replace HW0 := cb hB HW0; replace HRV := HRV.go hB; rw [HM.out]; clear hB
   refine hK.out _ _ ⟨HA.out.2.1, HA.out.2.2.1⟩ (fun hHeld => ?_)
   clear hK K
   apply rdy 4; intro K hK; clear hHeld; go_simp
   refine (make_calls _ false m HMK.out _).mono ?_
   rintro e W14 ⟨vmk, rfl, hmk, hB⟩
   replace HV := HV.go hB; replace HA := HA.go hB; replace HW0 := cb hB HW0; replace HRV := HRV.go hB; have Hmk := Lib.hid hmk; clear hmk; clear hB
   refine hK.out _ _ ⟨HA.out.2.1, HA.out.2.2.1⟩ (fun hHeld => ?_)
   clear hK K
   apply rdy 5; intro K hK; clear hHeld; go_simp
   refine (truth_yes t HT.out _ vmk l (List.replicate m false) _ HV.out Hmk.out (by rw [List.length_replicate]; exact HM.out) HL.out).mono ?_
   rintro e W15 ⟨vlo, rfl, hlo, hB⟩
   replace HV := HV.go hB; replace HA := HA.go hB; replace HW0 := cb hB HW0; replace HRV := HRV.go hB; replace Hmk := Hmk.go hB
   rw [HLO.out] at hlo
   have Hlo := Lib.hid hlo
   obtain ⟨alo, clo, rfl, hclo⟩ := hlo.opened
   clear hlo hclo; clear hB
   refine hK.out _ _ ⟨HA.out.2.1, HA.out.2.2.1⟩ (fun hHeld => ?_)
   clear hK K; apply tm 6; apply tm 7; apply tm 8
   apply rdy 10; intro K hK; clear hHeld; have s0 := HRV.out.2.1; have t0 := HRV.out.2.2.2 0; have s1 := HRV.out.2.2.1; have t1 := HRV.out.2.2.2 1; go_simp; clear s0 t0 s1 t1
   obtain ⟨W16, hWn⟩ : ∃ xw9, (W15.setCell ⟨rlo, 0, none⟩ (.int .i64 lo.length)).setCell ⟨rlo, 1, none⟩ (.slice alo ((lo.length + 63) / 64) clo) = xw9 := ⟨_, rfl⟩
   rw [hWn]
   replace Hlo := Lib.hid (show IsBits W16 (.agg #[.int .i64 lo.length, .slice alo ((lo.length + 63) / 64) clo]) lo by rw [← hWn]; exact Hlo.out.set2 HRV.out _ _)
   replace HRV := Lib.hid (show At2 W16 rlo (.int .i64 lo.length) (.slice alo ((lo.length + 63) / 64) clo) by rw [← hWn]; exact at2_put HRV.out _ _)
   replace HW0 := Lib.hid (show Below W1.heap.size W1 W16 by rw [← hWn]; exact below_setc HW0.out HBK.out _ _)
   replace HA := Lib.hid (show At2 W16 w.heap.size (.int .i64 m) (.slice ao L cap) from HAS.out.below HW0.out)
   clear hWn
   refine hK.out _ _ ⟨HA.out.2.1, HA.out.2.2.1⟩ (fun hHeld => ?_)
   clear hK K; apply tm 11
   refine wpAnyH_done (by kernel_rfl) ?_ _
   clear hHeld
   refine ⟨rfl, vmk, alo, clo, rlo, ?_, Hlo.out, HRV.out, HBK.out, HW0.out⟩
   try simp only [Act.put, List.setIfInBounds_toArray, List.set_cons_zero, List.set_cons_succ]
   all_goals first | rfl | kernel_rfl
  exact AllReadyH.nil
 rintro _ wmlo ⟨vmk, alo, clo, rlo, rfl, hlo, hAlo, hGlo, hB⟩
 have Hlo := Lib.hid hlo; have HVlo := Lib.hid hAlo; have HGlo := Lib.hid hGlo; clear hlo hAlo hGlo; replace HB := cb hB HB; replace HTB := HTB.go hB; replace HV := HV.go hB; replace HA := HA.go hB; replace HR := HR.go hB; clear hB
 simp only [Act.put, List.setIfInBounds_toArray, List.set_cons_zero, List.set_cons_succ]
 have cHA0 := HA.out.2.1; have cHA1 := HA.out.2.2.1; have cHR0 := HR.out.2.1; have cHR1 := HR.out.2.2.1; have cHVlo0 := HVlo.out.2.1; have cHVlo1 := HVlo.out.2.2.1
 go_wp2_with fail
 clear cHA0 cHA1 cHR0 cHR1 cHVlo0 cHVlo1
 refine wp_mid (fun s0 s1 w' => ∃ (vmk : Value) (ahi : Option Addr) (chi rhi : Nat), s1 = (((((((((((s0.put (some 33) (.int .u8 (t : Int))).put (some 34) (.agg #[.int .i64 m, .slice ao L cap])).put (some 35) (.agg #[.int .i64 m, .slice ao L cap])).put (some 36) (.int .i64 (m : Int))).put (some 37) vmk).put (some 38) (.tuple #[(.agg #[.int .i64 hi.length, .slice ahi ((hi.length + 63) / 64) chi]), .bool true])).put (some 32) (.tuple #[(.agg #[.int .i64 hi.length, .slice ahi ((hi.length + 63) / 64) chi]), .bool true])).put (some 39) (.agg #[.int .i64 hi.length, .slice ahi ((hi.length + 63) / 64) chi])).put (some 40) (.bool true)).put (some 11) (.pointer (some ⟨rhi, 0, none⟩))).put (some 12) (.bool true)) ∧ IsBits w' (.agg #[.int .i64 hi.length, .slice ahi ((hi.length + 63) / 64) chi]) hi ∧ At2 w' rhi (.int .i64 hi.length) (.slice ahi ((hi.length + 63) / 64) chi) ∧ wmlo.heap.size ≤ rhi ∧ Below wmlo.heap.size wmlo w') ?_ ?_
 ·have HW0 := Lib.hid (Below.refl wmlo.heap.size wmlo)
  have HAS := HA
  obtain ⟨W11, hWD, hB⟩ := drwn wmlo
  replace HV := HV.go hB; replace HA := HA.go hB; replace HW0 := cb hB HW0; clear hB
  refine rgn (S := fun w' => w'.cell? ⟨w.heap.size, 0, none⟩ = some (.int .i64 m) ∧ w'.cell? ⟨w.heap.size, 1, none⟩ = some (.slice ao L cap)) hWD ⟨HA.out.2.1, HA.out.2.2.1⟩ (fun hHeld => ?_)
  clear hWD; apply tm 0; apply tm 1; apply tm 2
  refine wpAnyH_ready (rs := [3, 9]) (by kernel_rfl) (by simp) ?_
  refine AllReadyH.cons (o := _) rfl (fun K hK => ?_) ?_
  ·clear hHeld; go_simp
   refine (len_calls _ l _ HV.out).mono ?_
   rintro e W12 ⟨rfl, hB⟩
   replace HV := HV.go hB; replace HA := HA.go hB; replace HW0 := cb hB HW0; rw [HM.out]; clear hB
   refine hK.out _ _ ⟨HA.out.2.1, HA.out.2.2.1⟩ (fun hHeld => ?_)
   clear hK K
   refine wpAnyH_ready (rs := [4, 9]) (by kernel_rfl) (by simp) ?_
   refine AllReadyH.cons (o := _) rfl (fun K hK => ?_) ?_
   ·clear hHeld; go_simp
    refine (make_calls _ true m HMK.out _).mono ?_
    rintro e W13 ⟨vmk, rfl, hmk, hB⟩
    replace HV := HV.go hB; replace HA := HA.go hB; replace HW0 := cb hB HW0; have Hmk := Lib.hid hmk; clear hmk; clear hB
    refine hK.out _ _ ⟨HA.out.2.1, HA.out.2.2.1⟩ (fun hHeld => ?_)
    clear hK K
    refine wpAnyH_ready (rs := [5, 9]) (by kernel_rfl) (by simp) ?_
    refine AllReadyH.cons (o := _) rfl (fun K hK => ?_) ?_
    ·clear hHeld; go_simp
     refine (truth_yes t HT.out _ vmk l (List.replicate m true) _ HV.out Hmk.out (by rw [List.length_replicate]; exact HM.out) HL.out).mono ?_
     rintro e W14 ⟨vhi, rfl, hhi, hB⟩
     replace HV := HV.go hB; replace HA := HA.go hB; replace HW0 := cb hB HW0; replace Hmk := Hmk.go hB
     rw [HHI.out] at hhi
     have Hhi := Lib.hid hhi
     obtain ⟨ahi, chi, rfl, hchi⟩ := hhi.opened
     clear hhi hchi; clear hB
     refine hK.out _ _ ⟨HA.out.2.1, HA.out.2.2.1⟩ (fun hHeld => ?_)
     clear hK K; apply tm 6; apply tm 7; apply tm 8
     apply rdy 9; intro K hK; clear hHeld; go_simp
     obtain ⟨W15, hWn, hB, hNB⟩ := ahd2 W14 (.int .i64 0) (.slice none 0 0) 74
     have hbk : wmlo.heap.size ≤ W14.heap.size := HW0.out.size
     rw [hWn]; clear hWn
     obtain ⟨rhi, hnm⟩ : ∃ x, W14.heap.size = x := ⟨_, rfl⟩
     rw [hnm] at hNB hbk ⊢
     replace HV := HV.go hB; replace HA := HA.go hB; replace HW0 := cb hB HW0; replace Hmk := Hmk.go hB; replace Hhi := Hhi.go hB; have HRV := Lib.hid hNB; have HBK := Lib.hid hbk; clear hNB hB hnm hbk
     refine hK.out _ _ ⟨HA.out.2.1, HA.out.2.2.1⟩ (fun hHeld => ?_)
     clear hK K
     apply rdy 10; intro K hK; clear hHeld; have s0 := HRV.out.2.1; have t0 := HRV.out.2.2.2 0; have s1 := HRV.out.2.2.1; have t1 := HRV.out.2.2.2 1; go_simp; clear s0 t0 s1 t1
     obtain ⟨W16, hWn⟩ : ∃ xw9, (W15.setCell ⟨rhi, 0, none⟩ (.int .i64 hi.length)).setCell ⟨rhi, 1, none⟩ (.slice ahi ((hi.length + 63) / 64) chi) = xw9 := ⟨_, rfl⟩
     rw [hWn]
     replace Hhi := Lib.hid (show IsBits W16 (.agg #[.int .i64 hi.length, .slice ahi ((hi.length + 63) / 64) chi]) hi by rw [← hWn]; exact Hhi.out.set2 HRV.out _ _)
     replace HRV := Lib.hid (show At2 W16 rhi (.int .i64 hi.length) (.slice ahi ((hi.length + 63) / 64) chi) by rw [← hWn]; exact at2_put HRV.out _ _)
     replace HW0 := Lib.hid (show Below wmlo.heap.size wmlo W16 by rw [← hWn]; exact below_setc HW0.out HBK.out _ _)
     replace HA := Lib.hid (show At2 W16 w.heap.size (.int .i64 m) (.slice ao L cap) from HAS.out.below HW0.out)
     clear hWn
     refine hK.out _ _ ⟨HA.out.2.1, HA.out.2.2.1⟩ (fun hHeld => ?_)
     clear hK K; apply tm 11
     refine wpAnyH_done (by kernel_rfl) ?_ _
     clear hHeld
     refine ⟨rfl, vmk, ahi, chi, rhi, ?_, Hhi.out, HRV.out, HBK.out, HW0.out⟩
     try simp only [Act.put, List.setIfInBounds_toArray, List.set_cons_zero, List.set_cons_succ]
     all_goals first | rfl | kernel_rfl
    refine AllReadyH.cons (o := _) rfl (fun K hK => ?_) ?_
    ·clear hHeld; go_simp
     obtain ⟨W14, hWn, hB, hNB⟩ := ahd2 W13 (.int .i64 0) (.slice none 0 0) 74
     have hbk : wmlo.heap.size ≤ W13.heap.size := HW0.out.size
     rw [hWn]; clear hWn
     obtain ⟨rhi, hnm⟩ : ∃ x, W13.heap.size = x := ⟨_, rfl⟩
     rw [hnm] at hNB hbk ⊢
     replace HV := HV.go hB; replace HA := HA.go hB; replace HW0 := cb hB HW0; replace Hmk := Hmk.go hB; have HRV := Lib.hid hNB; have HBK := Lib.hid hbk; clear hNB hB hnm hbk
     refine hK.out _ _ ⟨HA.out.2.1, HA.out.2.2.1⟩ (fun hHeld => ?_)
     clear hK K
     apply rdy 5; intro K hK; clear hHeld; go_simp
     refine (truth_yes t HT.out _ vmk l (List.replicate m true) _ HV.out Hmk.out (by rw [List.length_replicate]; exact HM.out) HL.out).mono ?_
     rintro e W15 ⟨vhi, rfl, hhi, hB⟩
     replace HV := HV.go hB; replace HA := HA.go hB; replace HW0 := cb hB HW0; replace Hmk := Hmk.go hB; replace HRV := HRV.go hB
     rw [HHI.out] at hhi
     have Hhi := Lib.hid hhi
     obtain ⟨ahi, chi, rfl, hchi⟩ := hhi.opened
     clear hhi hchi; clear hB
     refine hK.out _ _ ⟨HA.out.2.1, HA.out.2.2.1⟩ (fun hHeld => ?_)
     clear hK K; apply tm 6; apply tm 7; apply tm 8
     apply rdy 10; intro K hK; clear hHeld; have s0 := HRV.out.2.1; have t0 := HRV.out.2.2.2 0; have s1 := HRV.out.2.2.1; have t1 := HRV.out.2.2.2 1; go_simp; clear s0 t0 s1 t1
     obtain ⟨W16, hWn⟩ : ∃ xw9, (W15.setCell ⟨rhi, 0, none⟩ (.int .i64 hi.length)).setCell ⟨rhi, 1, none⟩ (.slice ahi ((hi.length + 63) / 64) chi) = xw9 := ⟨_, rfl⟩
     rw [hWn]
     replace Hhi := Lib.hid (show IsBits W16 (.agg #[.int .i64 hi.length, .slice ahi ((hi.length + 63) / 64) chi]) hi by rw [← hWn]; exact Hhi.out.set2 HRV.out _ _)
     replace HRV := Lib.hid (show At2 W16 rhi (.int .i64 hi.length) (.slice ahi ((hi.length + 63) / 64) chi) by rw [← hWn]; exact at2_put HRV.out _ _)
     replace HW0 := Lib.hid (show Below wmlo.heap.size wmlo W16 by rw [← hWn]; exact below_setc HW0.out HBK.out _ _)
     replace HA := Lib.hid (show At2 W16 w.heap.size (.int .i64 m) (.slice ao L cap) from HAS.out.below HW0.out)
     clear hWn
     refine hK.out _ _ ⟨HA.out.2.1, HA.out.2.2.1⟩ (fun hHeld => ?_)
     clear hK K; apply tm 11
     refine wpAnyH_done (by kernel_rfl) ?_ _
     clear hHeld
     refine ⟨rfl, vmk, ahi, chi, rhi, ?_, Hhi.out, HRV.out, HBK.out, HW0.out⟩
     try simp only [Act.put, List.setIfInBounds_toArray, List.set_cons_zero, List.set_cons_succ]
     all_goals first | rfl | kernel_rfl
    exact AllReadyH.nil
   refine AllReadyH.cons (o := _) rfl (fun K hK => ?_) ?_
   ·clear hHeld; go_simp
    obtain ⟨W13, hWn, hB, hNB⟩ := ahd2 W12 (.int .i64 0) (.slice none 0 0) 74
    have hbk : wmlo.heap.size ≤ W12.heap.size := HW0.out.size
    rw [hWn]; clear hWn
    obtain ⟨rhi, hnm⟩ : ∃ x, W12.heap.size = x := ⟨_, rfl⟩
    rw [hnm] at hNB hbk ⊢
    replace HV := HV.go hB; replace HA := HA.go hB; replace HW0 := cb hB HW0; have HRV := Lib.hid hNB; have HBK := Lib.hid hbk; clear hNB hB hnm hbk
    refine hK.out _ _ ⟨HA.out.2.1, HA.out.2.2.1⟩ (fun hHeld => ?_)
    clear hK K
    apply rdy 4; intro K hK; clear hHeld; go_simp
    refine (make_calls _ true m HMK.out _).mono ?_
    rintro e W14 ⟨vmk, rfl, hmk, hB⟩
    replace HV := HV.go hB; replace HA := HA.go hB; replace HW0 := cb hB HW0; replace HRV := HRV.go hB; have Hmk := Lib.hid hmk; clear hmk; clear hB
    refine hK.out _ _ ⟨HA.out.2.1, HA.out.2.2.1⟩ (fun hHeld => ?_)
    clear hK K
    apply rdy 5; intro K hK; clear hHeld; go_simp
    refine (truth_yes t HT.out _ vmk l (List.replicate m true) _ HV.out Hmk.out (by rw [List.length_replicate]; exact HM.out) HL.out).mono ?_
    rintro e W15 ⟨vhi, rfl, hhi, hB⟩
    replace HV := HV.go hB; replace HA := HA.go hB; replace HW0 := cb hB HW0; replace HRV := HRV.go hB; replace Hmk := Hmk.go hB
    rw [HHI.out] at hhi
    have Hhi := Lib.hid hhi
    obtain ⟨ahi, chi, rfl, hchi⟩ := hhi.opened
    clear hhi hchi; clear hB
    refine hK.out _ _ ⟨HA.out.2.1, HA.out.2.2.1⟩ (fun hHeld => ?_)
    clear hK K; apply tm 6; apply tm 7; apply tm 8
    apply rdy 10; intro K hK; clear hHeld; have s0 := HRV.out.2.1; have t0 := HRV.out.2.2.2 0; have s1 := HRV.out.2.2.1; have t1 := HRV.out.2.2.2 1; go_simp; clear s0 t0 s1 t1
    obtain ⟨W16, hWn⟩ : ∃ xw9, (W15.setCell ⟨rhi, 0, none⟩ (.int .i64 hi.length)).setCell ⟨rhi, 1, none⟩ (.slice ahi ((hi.length + 63) / 64) chi) = xw9 := ⟨_, rfl⟩
    rw [hWn]
    replace Hhi := Lib.hid (show IsBits W16 (.agg #[.int .i64 hi.length, .slice ahi ((hi.length + 63) / 64) chi]) hi by rw [← hWn]; exact Hhi.out.set2 HRV.out _ _)
    replace HRV := Lib.hid (show At2 W16 rhi (.int .i64 hi.length) (.slice ahi ((hi.length + 63) / 64) chi) by rw [← hWn]; exact at2_put HRV.out _ _)
    replace HW0 := Lib.hid (show Below wmlo.heap.size wmlo W16 by rw [← hWn]; exact below_setc HW0.out HBK.out _ _)
    replace HA := Lib.hid (show At2 W16 w.heap.size (.int .i64 m) (.slice ao L cap) from HAS.out.below HW0.out)
    clear hWn
    refine hK.out _ _ ⟨HA.out.2.1, HA.out.2.2.1⟩ (fun hHeld => ?_)
    clear hK K; apply tm 11
    refine wpAnyH_done (by kernel_rfl) ?_ _
    clear hHeld
    refine ⟨rfl, vmk, ahi, chi, rhi, ?_, Hhi.out, HRV.out, HBK.out, HW0.out⟩
    try simp only [Act.put, List.setIfInBounds_toArray, List.set_cons_zero, List.set_cons_succ]
    all_goals first | rfl | kernel_rfl
   exact AllReadyH.nil
  refine AllReadyH.cons (o := _) rfl (fun K hK => ?_) ?_
  ·clear hHeld; go_simp
   obtain ⟨W12, hWn, hB, hNB⟩ := ahd2 W11 (.int .i64 0) (.slice none 0 0) 74
   have hbk : wmlo.heap.size ≤ W11.heap.size := HW0.out.size
   rw [hWn]; clear hWn
   obtain ⟨rhi, hnm⟩ : ∃ x, W11.heap.size = x := ⟨_, rfl⟩
   rw [hnm] at hNB hbk ⊢
   replace HV := HV.go hB; replace HA := HA.go hB; replace HW0 := cb hB HW0; have HRV := Lib.hid hNB; have HBK := Lib.hid hbk; clear hNB hB hnm hbk
   refine hK.out _ _ ⟨HA.out.2.1, HA.out.2.2.1⟩ (fun hHeld => ?_)
   clear hK K
   apply rdy 3; intro K hK; clear hHeld; go_simp
   refine (len_calls _ l _ HV.out).mono ?_
   rintro e W13 ⟨rfl, hB⟩
   replace HV := HV.go hB; replace HA := HA.go hB; replace HW0 := cb hB HW0; replace HRV := HRV.go hB; rw [HM.out]; clear hB
   refine hK.out _ _ ⟨HA.out.2.1, HA.out.2.2.1⟩ (fun hHeld => ?_)
   clear hK K
   apply rdy 4; intro K hK; clear hHeld; go_simp
   refine (make_calls _ true m HMK.out _).mono ?_
   rintro e W14 ⟨vmk, rfl, hmk, hB⟩
   replace HV := HV.go hB; replace HA := HA.go hB; replace HW0 := cb hB HW0; replace HRV := HRV.go hB; have Hmk := Lib.hid hmk; clear hmk; clear hB
   refine hK.out _ _ ⟨HA.out.2.1, HA.out.2.2.1⟩ (fun hHeld => ?_)
   clear hK K
   apply rdy 5; intro K hK; clear hHeld; go_simp
   refine (truth_yes t HT.out _ vmk l (List.replicate m true) _ HV.out Hmk.out (by rw [List.length_replicate]; exact HM.out) HL.out).mono ?_
   rintro e W15 ⟨vhi, rfl, hhi, hB⟩
   replace HV := HV.go hB; replace HA := HA.go hB; replace HW0 := cb hB HW0; replace HRV := HRV.go hB; replace Hmk := Hmk.go hB
   rw [HHI.out] at hhi
   have Hhi := Lib.hid hhi
   obtain ⟨ahi, chi, rfl, hchi⟩ := hhi.opened
   clear hhi hchi; clear hB
   refine hK.out _ _ ⟨HA.out.2.1, HA.out.2.2.1⟩ (fun hHeld => ?_)
   clear hK K; apply tm 6; apply tm 7; apply tm 8
   apply rdy 10; intro K hK; clear hHeld; have s0 := HRV.out.2.1; have t0 := HRV.out.2.2.2 0; have s1 := HRV.out.2.2.1; have t1 := HRV.out.2.2.2 1; go_simp; clear s0 t0 s1 t1
   obtain ⟨W16, hWn⟩ : ∃ xw9, (W15.setCell ⟨rhi, 0, none⟩ (.int .i64 hi.length)).setCell ⟨rhi, 1, none⟩ (.slice ahi ((hi.length + 63) / 64) chi) = xw9 := ⟨_, rfl⟩
   rw [hWn]
   replace Hhi := Lib.hid (show IsBits W16 (.agg #[.int .i64 hi.length, .slice ahi ((hi.length + 63) / 64) chi]) hi by rw [← hWn]; exact Hhi.out.set2 HRV.out _ _)
   replace HRV := Lib.hid (show At2 W16 rhi (.int .i64 hi.length) (.slice ahi ((hi.length + 63) / 64) chi) by rw [← hWn]; exact at2_put HRV.out _ _)
   replace HW0 := Lib.hid (show Below wmlo.heap.size wmlo W16 by rw [← hWn]; exact below_setc HW0.out HBK.out _ _)
   replace HA := Lib.hid (show At2 W16 w.heap.size (.int .i64 m) (.slice ao L cap) from HAS.out.below HW0.out)
   clear hWn
   refine hK.out _ _ ⟨HA.out.2.1, HA.out.2.2.1⟩ (fun hHeld => ?_)
   clear hK K; apply tm 11
   refine wpAnyH_done (by kernel_rfl) ?_ _
   clear hHeld
   refine ⟨rfl, vmk, ahi, chi, rhi, ?_, Hhi.out, HRV.out, HBK.out, HW0.out⟩
   try simp only [Act.put, List.setIfInBounds_toArray, List.set_cons_zero, List.set_cons_succ]
   all_goals first | rfl | kernel_rfl
  exact AllReadyH.nil
 rintro _ wmhi ⟨vmk, ahi, chi, rhi, rfl, hhi, hAhi, hGhi, hB⟩
 have Hhi := Lib.hid hhi; have HVhi := Lib.hid hAhi; have HGhi := Lib.hid hGhi; clear hhi hAhi hGhi; replace HB := cb hB HB; replace HTB := HTB.go hB; replace HV := HV.go hB; replace HA := HA.go hB; replace HR := HR.go hB; replace Hlo := Hlo.go hB; replace HVlo := HVlo.go hB; clear hB
 simp only [Act.put, List.setIfInBounds_toArray, List.set_cons_zero, List.set_cons_succ]
 have cHA0 := HA.out.2.1; have cHA1 := HA.out.2.2.1; have cHR0 := HR.out.2.1; have cHR1 := HR.out.2.2.1; have cHVlo0 := HVlo.out.2.1; have cHVlo1 := HVlo.out.2.2.1; have cHVhi0 := HVhi.out.2.1; have cHVhi1 := HVhi.out.2.2.1
 go_wp2_with fail
 refine (truth_yes 9 (by decide) _ _ lo hi _ Hlo.out Hhi.out (by rw [HLOM.out, HHIM.out]) (by rw [HLOM.out]; exact HMM.out)).mono ?_
 rintro e W11 ⟨vse, rfl, hse, hB⟩
 clear cHA0 cHA1 cHR0 cHR1 cHVlo0 cHVlo1 cHVhi0 cHVhi1; replace HB := cb hB HB; replace HTB := HTB.go hB; replace HV := HV.go hB; replace HA := HA.go hB; replace HR := HR.go hB; replace Hlo := Hlo.go hB; replace HVlo := HVlo.go hB; replace Hhi := Hhi.go hB; replace HVhi := HVhi.go hB
 rw [HSE.out] at hse
 have Hse := Lib.hid hse
 obtain ⟨ase, cse, rfl, hcse⟩ := hse.opened
 clear hse hcse; clear hB
 obtain ⟨W12, hWn, hB, hNB⟩ := ahd2 W11 (.int .i64 se.length) (.slice ase ((se.length + 63) / 64) cse) 74
 replace HB := cb hB HB; replace HTB := HTB.go hB; replace HV := HV.go hB; replace HA := HA.go hB; replace HR := HR.go hB; replace Hlo := Hlo.go hB; replace HVlo := HVlo.go hB; replace Hhi := Hhi.go hB; replace HVhi := HVhi.go hB; replace Hse := Hse.go hB; have HVse := Lib.hid hNB; clear hNB hB; have cHA0 := HA.out.2.1; have cHA1 := HA.out.2.2.1; have cHR0 := HR.out.2.1; have cHR1 := HR.out.2.2.1
 have cHVlo0 := HVlo.out.2.1; have cHVlo1 := HVlo.out.2.2.1; have cHVhi0 := HVhi.out.2.1; have cHVhi1 := HVhi.out.2.2.1; have cHVse0 := HVse.out.2.1; have cHVse1 := HVse.out.2.2.1
 go_wp2_with fail
 clear hWn
 refine (truth_yes 4 (by decide) _ _ lo hi _ Hlo.out Hhi.out (by rw [HLOM.out, HHIM.out]) (by rw [HLOM.out]; exact HMM.out)).mono ?_
 rintro e W13 ⟨vfl, rfl, hfl, hB⟩
 clear cHA0 cHA1 cHR0 cHR1 cHVlo0 cHVlo1 cHVhi0 cHVhi1 cHVse0 cHVse1; replace HB := cb hB HB; replace HTB := HTB.go hB; replace HV := HV.go hB; replace HA := HA.go hB; replace HR := HR.go hB; replace Hlo := Hlo.go hB; replace HVlo := HVlo.go hB; replace Hhi := Hhi.go hB; replace HVhi := HVhi.go hB; replace Hse := Hse.go hB; replace HVse := HVse.go hB
 rw [HFL.out] at hfl
 have Hfl := Lib.hid hfl
 obtain ⟨afl, cfl, rfl, hcfl⟩ := hfl.opened
 clear hfl hcfl; clear hB
 obtain ⟨W14, hWn, hB, hNB⟩ := ahd2 W13 (.int .i64 fl.length) (.slice afl ((fl.length + 63) / 64) cfl) 74
 replace HB := cb hB HB; replace HTB := HTB.go hB; replace HV := HV.go hB; replace HA := HA.go hB; replace HR := HR.go hB; replace Hlo := Hlo.go hB; replace HVlo := HVlo.go hB; replace Hhi := Hhi.go hB; replace HVhi := HVhi.go hB; replace Hse := Hse.go hB; replace HVse := HVse.go hB; replace Hfl := Hfl.go hB; have HVfl := Lib.hid hNB; clear hNB hB
 have hmk := mkB1 outer (by have := HOM.out; omega) W14
 obtain ⟨bk, hbk⟩ : ∃ bk, W14.heap.size = bk := ⟨_, rfl⟩
 obtain ⟨W0, hW0⟩ : ∃ W0, W0 = W14.alloc (.cells (zerosV (.bool false) outer) 4) := ⟨_, rfl⟩
 have HO0 : Hid (W0.ownsRow bk 4 1 (.slice (some ⟨bk, 0, none⟩) outer outer) outer (List.replicate outer (.bool false))) := Lib.hid (by
  rw [hW0, ← hbk]; exact own_make1 (.bool false) 4 outer (by have := HOM.out; omega) W14 _ (Nat.le_refl _))
 have HWK := Lib.hid (show Below W14.heap.size W14 W0 by rw [hW0]; exact below_new _ _)
 have HBK := Lib.hid hbk; have HRK0 := Lib.hid HR.out.1
 have hfold2 := hW0.symm
 rw [hbk] at hmk
 clear hW0; have cHA0 := HA.out.2.1; have cHA1 := HA.out.2.2.1; have cHR0 := HR.out.2.1; have cHR1 := HR.out.2.2.1; have cHVlo0 := HVlo.out.2.1; have cHVlo1 := HVlo.out.2.2.1; have cHVhi0 := HVhi.out.2.1; have cHVhi1 := HVhi.out.2.2.1; have cHVse0 := HVse.out.2.1; have cHVse1 := HVse.out.2.2.1; have cHVfl0 := HVfl.out.2.1; have cHVfl1 := HVfl.out.2.2.1
 go_wp2_with fail
 clear hWn hmk hbk hfold2; clear cHA0 cHA1 cHR0 cHR1 cHVlo0 cHVlo1 cHVhi0 cHVhi1 cHVse0 cHVse1 cHVfl0 cHVfl1
 obtain ⟨bs, hbs⟩ : ∃ bs, outB t l outer n 1 = bs := ⟨_, rfl⟩
 have HBS := Lib.hid hbs
 have HBL := Lib.hid (show bs.length = outer by rw [← hbs, outB_len, Nat.mul_one])
 have HBG := Lib.hid (show ∀ o (h : o < bs.length), bs[o] = rowB t (lineG false l n 1 o 0) from fun o h => by
  simp only [← hbs, outB, List.getElem_map, List.getElem_range, Nat.div_one, Nat.mod_one])
 clear hbs
 obtain ⟨xs, hxs⟩ : ∃ xs : List Value, xs = bools bs := ⟨_, rfl⟩
 have HXL := Lib.hid (show xs.length = outer by rw [hxs]; simp [bools, HBL.out])
 have HXG := Lib.hid (show ∀ o (h : o < xs.length), xs[o] = .bool (rowB t (lineG false l n 1 o 0)) from fun o h => by
  simp only [hxs, bools, List.getElem_map]
  rw [HBG.out])
 have HXB := Lib.hid hxs; clear hxs
 go_loopw [57] (fun i wr => ∃ o : Nat, o ≤ outer ∧ i = .int .i64 o ∧ wr.ownsRow bk 4 1 (.slice (some ⟨bk, 0, none⟩) outer outer) outer (fillTo xs (.bool false) o) ∧ Below W14.heap.size W14 wr) (fun i _ => outer - (intOf i).toNat)
 case atStart => exact ⟨0, by omega, rfl, by rw [fillTo_zero, HXL.out]; exact HO0.out, HWK.out⟩
 case round =>
  obtain ⟨o, ho, rfl, hown, hB⟩ := hrel
  have HO := Lib.hid hown; have HKW := Lib.hid hB
  skip
  replace HB := cb hB HB; replace HTB := HTB.go hB; replace HV := HV.go hB; replace HA := HA.go hB; replace HR := HR.go hB; replace Hlo := Hlo.go hB; replace HVlo := HVlo.go hB; replace Hhi := Hhi.go hB; replace HVhi := HVhi.go hB; replace Hse := Hse.go hB; replace HVse := HVse.go hB; replace Hfl := Hfl.go hB; replace HVfl := HVfl.go hB; clear hB; clear hown
  by_cases hlt : o < outer
  ·obtain ⟨N1, hN1⟩ : ∃ N1, n = N1 + 1 := ⟨n - 1, by have := HN.out; omega⟩
   have hn1 : (n : Int) - 1 = (N1 : Int) := by omega
   obtain ⟨x, hx⟩ : ∃ x, o * n = x := ⟨_, rfl⟩
   obtain ⟨y, hy⟩ : ∃ y, (o + 1) * n = y := ⟨_, rfl⟩
   have hxy : x + n = y := by rw [← hx, ← hy, Nat.add_mul]; omega
   have hym : y ≤ m := by rw [← HM.out, HLL.out, ← hy]; exact Nat.mul_le_mul_right _ hlt
   have hmm := HMM.out
   have q1 : IntKind.i64.wrap ((o : Int) * (n : Int)) = (x : Int) := by rw [← Int.natCast_mul, hx]; exact IntWalk.i64_in _ (by omega)
   have q2 : IntKind.i64.wrap ((x : Int) + (n : Int)) = (y : Int) := by rw [← Int.natCast_add, hxy]; exact IntWalk.i64_in _ (by omega)
   obtain ⟨r, hr⟩ : ∃ r, (l.take y).drop x = r := ⟨_, rfl⟩
   have hrl : r.length = n := by rw [← hr, cut_len l (by omega) (by rw [HM.out]; exact hym)]; omega
   have HRL := Lib.hid hrl
   have HRG := Lib.hid (show lineG false l n 1 o 0 = r by rw [← hr, ← hx, ← hy]; exact (line_cut l HLL.out hlt).symm)
   have HRS := Lib.hid (show (se.take y).drop x = r.map (settB t) by rw [← hr, ← HSX.out, List.map_drop, List.map_take])
   have HRF := Lib.hid (show (fl.take y).drop x = r.map (flipB t) by rw [← hr, ← HFX.out, List.map_drop, List.map_take])
   have HSQ := Lib.hid (show ∀ i, i < n → sq l (x + i) = sq r i from fun i hi => by rw [← hr, sq_cut l (by omega)])
   have HLS := Lib.hid (show ∀ i, i < n → sq lo (x + i) = lowB t (sq r i) from fun i hi => by
    rw [← HSQ.out i hi, ← HLX.out]
    exact sq_map (g := fun b => tab t b false) (by rw [HM.out]; omega))
   obtain ⟨P, hP⟩ : ∃ P, x + N1 = P := ⟨_, rfl⟩
   have q3 : IntKind.i64.wrap ((y : Int) - 1) = (P : Int) := by rw [show ((y : Int) - 1) = ((P : Nat) : Int) by omega]; exact IntWalk.i64_in _ (by omega)
   obtain ⟨z0, hz0⟩ : ∃ z0, sq r N1 = z0 := ⟨_, rfl⟩
   have HYZ := Lib.hid (show sqI l (P : Int) = z0 by rw [← hz0, ← HSQ.out N1 (by omega), hP]; rfl)
   have HYS := Lib.hid (show y ≤ se.length by rw [HSEM.out]; exact hym)
   have HYF := Lib.hid (show y ≤ fl.length by rw [HFLM.out]; exact hym)
   have HXX := Lib.hid hx; have HYY := Lib.hid hy
   have HRW := Lib.hid (row_settle t r (by omega))
   have hxm : x ≤ 1048576 := by omega
   have hnm : N1 ≤ 1048576 := by have := HNO.out; omega
   have HXK := Lib.hid (show xs[o]'(by rw [HXL.out]; exact hlt) = .bool (rowB t r) by rw [HXG.out, HRG.out])
   have HN1 := Lib.hid (show r.length - 1 = N1 by rw [hrl, hN1]; rfl)
   have HNN := Lib.hid hN1
   obtain ⟨F, hF⟩ : ∃ F, firstOf (r.map (settB t)) = F := ⟨_, rfl⟩
   have HF := Lib.hid hF
   rw [HN1.out, hz0, hF] at HRW
   have HSL := Lib.hid (show (r.map (settB t)).length ≤ 1048576 by rw [List.length_map, hrl]; exact HNO.out)
   have HFL2 := Lib.hid (show (r.map (flipB t)).length = n by rw [List.length_map, hrl])
   clear hN1 hx hy hxy hym hr hrl hP hz0 hF; have cHA0 := HA.out.2.1; have cHA1 := HA.out.2.2.1; have cHR0 := HR.out.2.1; have cHR1 := HR.out.2.2.1; have cHVlo0 := HVlo.out.2.1; have cHVlo1 := HVlo.out.2.2.1; have cHVhi0 := HVhi.out.2.1; have cHVhi1 := HVhi.out.2.2.1; have cHVse0 := HVse.out.2.1; have cHVse1 := HVse.out.2.2.1; have cHVfl0 := HVfl.out.2.1; have cHVfl1 := HVfl.out.2.2.1
   go_wp2_with fail
   refine (at_calls _ l (P : Int) _ HV.out HL.out).mono ?_
   rintro e W15 ⟨rfl, hB⟩
   clear cHA0 cHA1 cHR0 cHR1 cHVlo0 cHVlo1 cHVhi0 cHVhi1 cHVse0 cHVse1 cHVfl0 cHVfl1; replace HB := cb hB HB; replace HTB := HTB.go hB; replace HV := HV.go hB; replace HA := HA.go hB; replace HR := HR.go hB; replace Hlo := Hlo.go hB; replace HVlo := HVlo.go hB; replace Hhi := Hhi.go hB; replace HVhi := HVhi.go hB; replace Hse := Hse.go hB; replace HVse := HVse.go hB; replace Hfl := Hfl.go hB; replace HVfl := HVfl.go hB
   replace HO := Lib.hid (owns_below HO.out hB)
   replace HKW := cb hB HKW; rw [HYZ.out]; clear hB; have cHA0 := HA.out.2.1; have cHA1 := HA.out.2.2.1; have cHR0 := HR.out.2.1; have cHR1 := HR.out.2.2.1; have cHVlo0 := HVlo.out.2.1; have cHVlo1 := HVlo.out.2.2.1; have cHVhi0 := HVhi.out.2.1; have cHVhi1 := HVhi.out.2.2.1; have cHVse0 := HVse.out.2.1; have cHVse1 := HVse.out.2.2.1; have cHVfl0 := HVfl.out.2.1; have cHVfl1 := HVfl.out.2.2.1
   go_wp2_with fail
   refine (fopiece_calls _ se o n x y _ Hse.out (by rw [HSEM.out]; exact HMM.out) HN.out HXX.out HYY.out HYS.out).mono ?_
   rintro e W16 ⟨vps, rfl, hvps, hB⟩
   clear cHA0 cHA1 cHR0 cHR1 cHVlo0 cHVlo1 cHVhi0 cHVhi1 cHVse0 cHVse1 cHVfl0 cHVfl1; replace HB := cb hB HB; replace HTB := HTB.go hB; replace HV := HV.go hB; replace HA := HA.go hB; replace HR := HR.go hB; replace Hlo := Hlo.go hB; replace HVlo := HVlo.go hB; replace Hhi := Hhi.go hB; replace HVhi := HVhi.go hB; replace Hse := Hse.go hB; replace HVse := HVse.go hB; replace Hfl := Hfl.go hB; replace HVfl := HVfl.go hB
   replace HO := Lib.hid (owns_below HO.out hB)
   replace HKW := cb hB HKW
   rw [HRS.out] at hvps
   have Hvps := Lib.hid hvps; clear hvps; clear hB; have cHA0 := HA.out.2.1; have cHA1 := HA.out.2.2.1; have cHR0 := HR.out.2.1; have cHR1 := HR.out.2.2.1; have cHVlo0 := HVlo.out.2.1; have cHVlo1 := HVlo.out.2.2.1; have cHVhi0 := HVhi.out.2.1; have cHVhi1 := HVhi.out.2.2.1; have cHVse0 := HVse.out.2.1; have cHVse1 := HVse.out.2.2.1; have cHVfl0 := HVfl.out.2.1; have cHVfl1 := HVfl.out.2.2.1
   go_wp2_with fail
   refine (first_calls _ (r.map (settB t)) _ Hvps.out HSL.out HTB.out).mono ?_
   rintro e W17 ⟨rfl, hB⟩
   clear cHA0 cHA1 cHR0 cHR1 cHVlo0 cHVlo1 cHVhi0 cHVhi1 cHVse0 cHVse1 cHVfl0 cHVfl1; replace HB := cb hB HB; replace HTB := HTB.go hB; replace HV := HV.go hB; replace HA := HA.go hB; replace HR := HR.go hB; replace Hlo := Hlo.go hB; replace HVlo := HVlo.go hB; replace Hhi := Hhi.go hB; replace HVhi := HVhi.go hB; replace Hse := Hse.go hB; replace HVse := HVse.go hB; replace Hfl := Hfl.go hB; replace HVfl := HVfl.go hB
   replace HO := Lib.hid (owns_below HO.out hB)
   replace HKW := cb hB HKW; replace Hvps := Hvps.go hB; rw [HF.out]; clear hB; have cHA0 := HA.out.2.1; have cHA1 := HA.out.2.2.1; have cHR0 := HR.out.2.1; have cHR1 := HR.out.2.2.1; have cHVlo0 := HVlo.out.2.1; have cHVlo1 := HVlo.out.2.2.1; have cHVhi0 := HVhi.out.2.1; have cHVhi1 := HVhi.out.2.2.1; have cHVse0 := HVse.out.2.1; have cHVse1 := HVse.out.2.2.1; have cHVfl0 := HVfl.out.2.1; have cHVfl1 := HVfl.out.2.2.1
   by_cases hF : F < N1
   ·obtain ⟨C, hC⟩ : ∃ C, cnt (sq (r.map (flipB t))) F = C := ⟨_, rfl⟩
    have HC := Lib.hid hC
    obtain ⟨z1, hz1⟩ : ∃ z1, lowB t (sq r F) = z1 := ⟨_, rfl⟩
    obtain ⟨od, hod⟩ : ∃ od, decide (C % 2 = 1) = od := ⟨_, rfl⟩
    have HRB := Lib.hid (show rowB t r = (z1 != od) by rw [HRW.out, if_pos hF, if_pos hF, hC, hz1, hod])
    have HOD := Lib.hid (show ((C : Int) % 2 == 1) = od by rw [← hod, Bool.eq_iff_iff]; simp; omega)
    have HRK := Lib.hid (show min (max (F : Int) 0) ((r.map (flipB t)).length : Int) = (F : Int) by rw [HFL2.out]; have := HNN.out; omega)
    obtain ⟨Q, hQ⟩ : ∃ Q, x + F = Q := ⟨_, rfl⟩
    have q4 : IntKind.i64.wrap ((x : Int) + (F : Int)) = (Q : Int) := by rw [← Int.natCast_add, hQ]; exact IntWalk.i64_in _ (by omega)
    have HQZ := Lib.hid (show sqI lo (Q : Int) = z1 by rw [← hz1, ← HLS.out F (by have := HNN.out; omega), hQ]; rfl)
    clear hQ; clear hC hz1 hod
    go_wp2_with fail
    refine (at_calls _ lo (Q : Int) _ Hlo.out (by rw [HLOM.out]; exact HMM.out)).mono ?_
    rintro e W18 ⟨rfl, hB⟩
    clear cHA0 cHA1 cHR0 cHR1 cHVlo0 cHVlo1 cHVhi0 cHVhi1 cHVse0 cHVse1 cHVfl0 cHVfl1; replace HB := cb hB HB; replace HTB := HTB.go hB; replace HV := HV.go hB; replace HA := HA.go hB; replace HR := HR.go hB; replace Hlo := Hlo.go hB; replace HVlo := HVlo.go hB; replace Hhi := Hhi.go hB; replace HVhi := HVhi.go hB; replace Hse := Hse.go hB; replace HVse := HVse.go hB; replace Hfl := Hfl.go hB; replace HVfl := HVfl.go hB
    replace HO := Lib.hid (owns_below HO.out hB)
    replace HKW := cb hB HKW; replace Hvps := Hvps.go hB; rw [HQZ.out]; clear hB; have cHA0 := HA.out.2.1; have cHA1 := HA.out.2.2.1; have cHR0 := HR.out.2.1; have cHR1 := HR.out.2.2.1; have cHVlo0 := HVlo.out.2.1; have cHVlo1 := HVlo.out.2.2.1; have cHVhi0 := HVhi.out.2.1; have cHVhi1 := HVhi.out.2.2.1; have cHVse0 := HVse.out.2.1; have cHVse1 := HVse.out.2.2.1; have cHVfl0 := HVfl.out.2.1; have cHVfl1 := HVfl.out.2.2.1
    go_wp2_with fail
    refine (fopiece_calls _ fl o n x y _ Hfl.out (by rw [HFLM.out]; exact HMM.out) HN.out HXX.out HYY.out HYF.out).mono ?_
    rintro e W19 ⟨vpf, rfl, hvpf, hB⟩
    clear cHA0 cHA1 cHR0 cHR1 cHVlo0 cHVlo1 cHVhi0 cHVhi1 cHVse0 cHVse1 cHVfl0 cHVfl1; replace HB := cb hB HB; replace HTB := HTB.go hB; replace HV := HV.go hB; replace HA := HA.go hB; replace HR := HR.go hB; replace Hlo := Hlo.go hB; replace HVlo := HVlo.go hB; replace Hhi := Hhi.go hB; replace HVhi := HVhi.go hB; replace Hse := Hse.go hB; replace HVse := HVse.go hB; replace Hfl := Hfl.go hB; replace HVfl := HVfl.go hB
    replace HO := Lib.hid (owns_below HO.out hB)
    replace HKW := cb hB HKW; replace Hvps := Hvps.go hB
    rw [HRF.out] at hvpf
    have Hvpf := Lib.hid hvpf; clear hvpf; clear hB; have cHA0 := HA.out.2.1; have cHA1 := HA.out.2.2.1; have cHR0 := HR.out.2.1; have cHR1 := HR.out.2.2.1; have cHVlo0 := HVlo.out.2.1; have cHVlo1 := HVlo.out.2.2.1; have cHVhi0 := HVhi.out.2.1; have cHVhi1 := HVhi.out.2.2.1; have cHVse0 := HVse.out.2.1; have cHVse1 := HVse.out.2.2.1; have cHVfl0 := HVfl.out.2.1; have cHVfl1 := HVfl.out.2.2.1
    go_wp2_with fail
    refine (rank_calls _ (r.map (flipB t)) (F : Int) F HRK.out _ Hvpf.out (by rw [HFL2.out]; exact HNO.out)).mono ?_
    rintro e W20 ⟨rfl, hB⟩
    clear cHA0 cHA1 cHR0 cHR1 cHVlo0 cHVlo1 cHVhi0 cHVhi1 cHVse0 cHVse1 cHVfl0 cHVfl1; replace HB := cb hB HB; replace HTB := HTB.go hB; replace HV := HV.go hB; replace HA := HA.go hB; replace HR := HR.go hB; replace Hlo := Hlo.go hB; replace HVlo := HVlo.go hB; replace Hhi := Hhi.go hB; replace HVhi := HVhi.go hB; replace Hse := Hse.go hB; replace HVse := HVse.go hB; replace Hfl := Hfl.go hB; replace HVfl := HVfl.go hB
    replace HO := Lib.hid (owns_below HO.out hB)
    replace HKW := cb hB HKW; replace Hvps := Hvps.go hB; replace Hvpf := Hvpf.go hB; rw [HC.out]; clear hB; have cHA0 := HA.out.2.1; have cHA1 := HA.out.2.2.1; have cHR0 := HR.out.2.1; have cHR1 := HR.out.2.2.1; have cHVlo0 := HVlo.out.2.1; have cHVlo1 := HVlo.out.2.2.1; have cHVhi0 := HVhi.out.2.1; have cHVhi1 := HVhi.out.2.2.1; have cHVse0 := HVse.out.2.1; have cHVse1 := HVse.out.2.2.1; have cHVfl0 := HVfl.out.2.1
    have cHVfl1 := HVfl.out.2.2.1
    have hcw := owns_cell HO.out o (by rw [fillTo_len _ _ _ (by rw [HXL.out]; exact ho), HXL.out]; exact hlt)
    have hfr := World.ownsRow.frozenAt HO.out o
    have hom := HOM.out
    go_wp2_with fail
    rw [HOD.out]
    go_roundw
    case rel =>
     refine ⟨o + 1, by omega, by go_num, ?_, HKW.out.setCell (by rw [HBK.out]; exact Nat.le_refl _) _⟩
     have h9 := (World.ownsRow.stored HO.out o (xs[o]'(by rw [HXL.out]; exact hlt))).1
     rw [fillTo_set, HXK.out, HRB.out] at h9
     exact h9
    case measure => simp [intOf]; omega
   ·obtain ⟨C, hC⟩ : ∃ C, cnt (sq (r.map (flipB t))) N1 = C := ⟨_, rfl⟩
    have HC := Lib.hid hC
    skip
    obtain ⟨od, hod⟩ : ∃ od, decide (C % 2 = 1) = od := ⟨_, rfl⟩
    have HRB := Lib.hid (show rowB t r = (z0 != od) by rw [HRW.out, if_neg hF, if_neg hF, hC, hod])
    have HOD := Lib.hid (show ((C : Int) % 2 == 1) = od by rw [← hod, Bool.eq_iff_iff]; simp; omega)
    have HRK := Lib.hid (show min (max (N1 : Int) 0) ((r.map (flipB t)).length : Int) = (N1 : Int) by rw [HFL2.out]; have := HNN.out; omega)
    clear hC hod
    go_wp2_with fail
    refine (fopiece_calls _ fl o n x y _ Hfl.out (by rw [HFLM.out]; exact HMM.out) HN.out HXX.out HYY.out HYF.out).mono ?_
    rintro e W18 ⟨vpf, rfl, hvpf, hB⟩
    clear cHA0 cHA1 cHR0 cHR1 cHVlo0 cHVlo1 cHVhi0 cHVhi1 cHVse0 cHVse1 cHVfl0 cHVfl1; replace HB := cb hB HB; replace HTB := HTB.go hB; replace HV := HV.go hB; replace HA := HA.go hB; replace HR := HR.go hB; replace Hlo := Hlo.go hB; replace HVlo := HVlo.go hB; replace Hhi := Hhi.go hB; replace HVhi := HVhi.go hB; replace Hse := Hse.go hB; replace HVse := HVse.go hB; replace Hfl := Hfl.go hB; replace HVfl := HVfl.go hB
    replace HO := Lib.hid (owns_below HO.out hB)
    replace HKW := cb hB HKW; replace Hvps := Hvps.go hB
    rw [HRF.out] at hvpf
    have Hvpf := Lib.hid hvpf; clear hvpf; clear hB; have cHA0 := HA.out.2.1; have cHA1 := HA.out.2.2.1; have cHR0 := HR.out.2.1; have cHR1 := HR.out.2.2.1; have cHVlo0 := HVlo.out.2.1; have cHVlo1 := HVlo.out.2.2.1; have cHVhi0 := HVhi.out.2.1; have cHVhi1 := HVhi.out.2.2.1; have cHVse0 := HVse.out.2.1; have cHVse1 := HVse.out.2.2.1; have cHVfl0 := HVfl.out.2.1; have cHVfl1 := HVfl.out.2.2.1
    go_wp2_with fail
    refine (rank_calls _ (r.map (flipB t)) (N1 : Int) N1 HRK.out _ Hvpf.out (by rw [HFL2.out]; exact HNO.out)).mono ?_
    rintro e W19 ⟨rfl, hB⟩
    clear cHA0 cHA1 cHR0 cHR1 cHVlo0 cHVlo1 cHVhi0 cHVhi1 cHVse0 cHVse1 cHVfl0 cHVfl1; replace HB := cb hB HB; replace HTB := HTB.go hB; replace HV := HV.go hB; replace HA := HA.go hB; replace HR := HR.go hB; replace Hlo := Hlo.go hB; replace HVlo := HVlo.go hB; replace Hhi := Hhi.go hB; replace HVhi := HVhi.go hB; replace Hse := Hse.go hB; replace HVse := HVse.go hB; replace Hfl := Hfl.go hB; replace HVfl := HVfl.go hB
    replace HO := Lib.hid (owns_below HO.out hB)
    replace HKW := cb hB HKW; replace Hvps := Hvps.go hB; replace Hvpf := Hvpf.go hB; rw [HC.out]; clear hB; have cHA0 := HA.out.2.1; have cHA1 := HA.out.2.2.1; have cHR0 := HR.out.2.1; have cHR1 := HR.out.2.2.1; have cHVlo0 := HVlo.out.2.1; have cHVlo1 := HVlo.out.2.2.1; have cHVhi0 := HVhi.out.2.1; have cHVhi1 := HVhi.out.2.2.1; have cHVse0 := HVse.out.2.1; have cHVse1 := HVse.out.2.2.1; have cHVfl0 := HVfl.out.2.1
    have cHVfl1 := HVfl.out.2.2.1
    have hcw := owns_cell HO.out o (by rw [fillTo_len _ _ _ (by rw [HXL.out]; exact ho), HXL.out]; exact hlt)
    have hfr := World.ownsRow.frozenAt HO.out o
    have hom := HOM.out
    go_wp2_with fail
    rw [HOD.out]
    go_roundw
    case rel =>
     refine ⟨o + 1, by omega, by go_num, ?_, HKW.out.setCell (by rw [HBK.out]; exact Nat.le_refl _) _⟩
     have h9 := (World.ownsRow.stored HO.out o (xs[o]'(by rw [HXL.out]; exact hlt))).1
     rw [fillTo_set, HXK.out, HRB.out] at h9
     exact h9
    case measure => simp [intOf]; omega
  ·have hoo : o = outer := by omega
   have HOW := Lib.hid (show Slc wr (fun b => bk ≤ b) (.slice (some ⟨bk, 0, none⟩) outer outer) outer (bools bs) by
    have := Slc.owned HO.out
    rw [hoo, ← HXL.out, fillTo_all, HXL.out, HXB.out] at this
    exact this)
   have HBM := Lib.hid (show bs.length ≤ 1048576 by rw [HBL.out]; exact HOM.out)
   have HWS := Lib.hid HKW.out.size
   have HKS := Lib.hid (show w.heap.size + 1 ≤ bk by have := HR.out.1; have := HBK.out; have := HRK0.out; omega)
   clear hoo; have cHA0 := HA.out.2.1; have cHA1 := HA.out.2.2.1; have cHR0 := HR.out.2.1; have cHR1 := HR.out.2.2.1; have zHR0 := HR.out.2.2.2 0; have zHR1 := HR.out.2.2.2 1; have cHVlo0 := HVlo.out.2.1; have cHVlo1 := HVlo.out.2.2.1; have cHVhi0 := HVhi.out.2.1; have cHVhi1 := HVhi.out.2.2.1; have cHVse0 := HVse.out.2.1; have cHVse1 := HVse.out.2.2.1; have cHVfl0 := HVfl.out.2.1; have cHVfl1 := HVfl.out.2.2.1
   go_wp2_with fail
   refine (pack_fresh _ bs _ (by rw [HBL.out]; exact HOW.out.1.sl) HBM.out).mono ?_
   rintro e W15 ⟨v4, rfl, hv4, hB⟩
   clear cHA0 cHA1 cHR0 cHR1 zHR0 zHR1 cHVlo0 cHVlo1 cHVhi0 cHVhi1 cHVse0 cHVse1 cHVfl0 cHVfl1; replace HB := cb hB HB; replace HTB := HTB.go hB; replace HV := HV.go hB; replace HA := HA.go hB; replace HR := HR.go hB; replace Hlo := Hlo.go hB; replace HVlo := HVlo.go hB; replace Hhi := Hhi.go hB; replace HVhi := HVhi.go hB; replace Hse := Hse.go hB; replace HVse := HVse.go hB; replace Hfl := Hfl.go hB
   replace HVfl := HVfl.go hB; replace HKW := cb hB HKW; replace HOW := HOW.go hB
   have HV4 := Lib.hid (show IsBitsX W15 (fun b => w.heap.size + 2 ≤ b) v4 bs from hv4.keep (Kept.refl _ _) (fun b _ (h : wr.heap.size + 1 ≤ b) => by have := HWS.out; have := HKS.out; have := HBK.out; omega))
   clear hv4; clear hB; have cHA0 := HA.out.2.1; have cHA1 := HA.out.2.2.1; have cHR0 := HR.out.2.1; have cHR1 := HR.out.2.2.1; have zHR0 := HR.out.2.2.2 0; have zHR1 := HR.out.2.2.2 1; have cHVlo0 := HVlo.out.2.1; have cHVlo1 := HVlo.out.2.2.1; have cHVhi0 := HVhi.out.2.1; have cHVhi1 := HVhi.out.2.2.1; have cHVse0 := HVse.out.2.1; have cHVse1 := HVse.out.2.2.1; have cHVfl0 := HVfl.out.2.1; have cHVfl1 := HVfl.out.2.2.1
   obtain ⟨ao4, cap4, rfl, _⟩ := HV4.out.bits.opened
   go_wp2_with fail
   have hq := at2_put HR.out (.int .i64 bs.length) (.slice ao4 ((bs.length + 63) / 64) cap4)
   have q0 := hq.2.1
   have q1 := hq.2.2.1
   have HB5 := Lib.hid (below_setc HB.out (show w.heap.size ≤ w.heap.size + 1 by omega) (.int .i64 bs.length) (.slice ao4 ((bs.length + 63) / 64) cap4))
   refine bodyPost_ret (v := .agg #[.int .i64 bs.length, .slice ao4 ((bs.length + 63) / 64) cap4]) (by simp [results, Tryz.results106, go_sem, q0, q1]) rfl ⟨_, rfl, ?_, HB5.out⟩
   rw [HBS.out]
   exact HV4.out.keep ((Kept.setCell _ _ _ (by simp)).trans (Kept.setCell _ _ _ (by simp))) (fun _ _ h => h)
end Go.Proofs.YtghojndkcndjbaaGreatDoor

/- Layer 13, walked: counted of package fold. -/
namespace Go.Proofs.YtghojndkcndjbaaGreatDoor
set_option maxRecDepth 100000
open Go.RowKit Fl
set_option linter.unusedVariables false

set_option maxHeartbeats 8000000 in
theorem focounted_calls (v vm : Value) (l mk : List Bool) (outer n : Nat) (w : World) (hv : IsBits w v l) (hvm : IsBits w vm mk) (hl : l.length ≤ 1048576) (hll : l.length = outer * n) (hmk : mk.length = n) (hn : 0 < n) (hno : n ≤ 1048576) (hsm : ∀ z ∈ outC l mk outer n, sm z = true) (hT : TabAt w) :
  Calls Tryz.prog 107 #[v, .int .i64 (outer : Int), vm] w fun e w' => ∃ u, e = .returned (.agg #[u]) ∧ IsV w' (fun b => w.heap.size + 3 ≤ b) u (sqL ((outC l mk outer n).map (floatOfInt .f64))) ∧ Below w.heap.size w w' := by
 have HL := Lib.hid hl; have HLL := Lib.hid hll; have HN := Lib.hid hn; have HNO := Lib.hid hno; have HMK := Lib.hid hmk; have HSM := Lib.hid hsm
 have HOM := Lib.hid (show outer ≤ 1048576 by have := Nat.le_mul_of_pos_right outer hn; omega)
 obtain ⟨m, hm⟩ : ∃ m, l.length = m := ⟨_, rfl⟩
 have HM := Lib.hid hm
 obtain ⟨ao, cap, rfl, hcx⟩ := hv.opened
 obtain ⟨bo, cbp, rfl, hcy⟩ := hvm.opened
 have HV := Lib.hid hv; have HVM := Lib.hid hvm
 rw [hm] at HV ⊢
 rw [hmk] at HVM ⊢
 obtain ⟨L, hL⟩ : ∃ L, (m + 63) / 64 = L := ⟨_, rfl⟩
 rw [hL] at HV ⊢
 obtain ⟨KW, hK⟩ : ∃ KW, (n + 63) / 64 = KW := ⟨_, rfl⟩
 rw [hK] at HVM ⊢
 obtain ⟨W1, hW1⟩ : ∃ W1, W1 = ((w.alloc (.cells #[.int .i64 m, .slice ao L cap] 74)).alloc (.cells #[.int .i64 n, .slice bo KW cbp] 74)).alloc (.cells #[.nilIface] 35) := ⟨_, rfl⟩
 have HB := Lib.hid (show Below w.heap.size w W1 by rw [hW1]; exact ((below_new _ _).alloc (by simp) _).alloc (by simp; omega) _)
 have HA := Lib.hid (show At2 W1 w.heap.size (.int .i64 m) (.slice ao L cap) by rw [hW1]; exact ((At2.new _ _ _ _).alloc _).alloc _)
 have HD := Lib.hid (show At2 W1 (w.heap.size + 1) (.int .i64 n) (.slice bo KW cbp) by
  rw [hW1]; have := (At2.new (w.alloc (.cells #[.int .i64 m, .slice ao L cap] 74)) (.int .i64 n) (.slice bo KW cbp) 74).alloc (.cells #[.nilIface] 35); simpa using this)
 have HR := Lib.hid (show At1 W1 (w.heap.size + 1 + 1) .nilIface by rw [hW1]; have := At1.new ((w.alloc (.cells #[.int .i64 m, .slice ao L cap] 74)).alloc (.cells #[.int .i64 n, .slice bo KW cbp] 74)) .nilIface 35; simpa using this)
 replace HV := Lib.hid (HV.out.keep (keep_below HB.out))
 replace HVM := Lib.hid (HVM.out.keep (keep_below HB.out))
 have HTB := Lib.hid (show TabAt W1 from fun j hj => keep_below HB.out _ _ (hT j hj))
 have hfold := hW1.symm
 have HMM := Lib.hid (show m ≤ 1048576 by omega)
 clear hcx hcy hL hK hv hvm hl hll hn hno hT hW1 hm hmk hsm
 have hmk := run_mkI1 outer (by have := HOM.out; omega) W1
 obtain ⟨bk, hbk⟩ : ∃ bk, W1.heap.size = bk := ⟨_, rfl⟩
 obtain ⟨W0, hW0⟩ : ∃ W0, W0 = W1.alloc (.cells (zerosV (.int .i64 0) outer) 2) := ⟨_, rfl⟩
 have HO0 : Hid (W0.ownsRow bk 2 1 (.slice (some ⟨bk, 0, none⟩) outer outer) outer (List.replicate outer (.int .i64 0))) := Lib.hid (by
  rw [hW0, ← hbk]; exact own_make1 (.int .i64 0) 2 outer (by have := HOM.out; omega) W1 _ (Nat.le_refl _))
 have HWK := Lib.hid (show Below W1.heap.size W1 W0 by rw [hW0]; exact below_new _ _)
 have HBK := Lib.hid hbk; have HRK0 := Lib.hid HR.out.1
 have hfold2 := hW0.symm
 rw [hbk] at hmk
 clear hW0; have cHA0 := HA.out.2.1; have cHA1 := HA.out.2.2.1; have cHD0 := HD.out.2.1; have cHD1 := HD.out.2.2.1; have cHR0 := HR.out.2.1; have zHR0 := HR.out.2.2 0
 go_enter Tryz.func107, Tryz.ntmps107
 go_wp2_with fail
 clear hfold hfold2 hmk hbk; clear cHA0 cHA1 cHD0 cHD1 cHR0 zHR0
 obtain ⟨zs, hzs⟩ : ∃ zs, outC l mk outer n = zs := ⟨_, rfl⟩
 have HZS := Lib.hid hzs
 have HBL := Lib.hid (show zs.length = outer by rw [← hzs, outC_len])
 have HBG := Lib.hid (show ∀ o (h : o < zs.length), zs[o] = cntI (lineG false l n 1 o 0) mk from fun o h => by
  simp only [← hzs, outC, List.getElem_map, List.getElem_range])
 clear hzs
 obtain ⟨xs, hxs⟩ : ∃ xs : List Value, xs = ints zs := ⟨_, rfl⟩
 have HXL := Lib.hid (show xs.length = outer by rw [hxs]; simp [ints, HBL.out])
 have HXG := Lib.hid (show ∀ o (h : o < xs.length), xs[o] = .int .i64 (cntI (lineG false l n 1 o 0) mk) from fun o h => by
  simp only [hxs, ints, List.getElem_map]
  rw [HBG.out])
 have HXB := Lib.hid hxs; clear hxs
 go_loopw [18] (fun i wr => ∃ o : Nat, o ≤ outer ∧ i = .int .i64 o ∧ wr.ownsRow bk 2 1 (.slice (some ⟨bk, 0, none⟩) outer outer) outer (fillTo xs (.int .i64 0) o) ∧ Below W1.heap.size W1 wr) (fun i _ => outer - (intOf i).toNat)
 case atStart => exact ⟨0, by omega, rfl, by rw [fillTo_zero, HXL.out]; exact HO0.out, HWK.out⟩
 case round =>
  obtain ⟨o, ho, rfl, hown, hB⟩ := hrel
  have HO := Lib.hid hown
  have HOR := HO
  have HKW := Lib.hid hB
  have HWR := Lib.hid (Below.refl wr.heap.size wr)
  have HWQ := Lib.hid hB.size
  skip
  replace HB := cb hB HB; replace HTB := HTB.go hB; replace HV := HV.go hB; replace HVM := HVM.go hB; replace HA := HA.go hB; replace HD := HD.go hB; replace HR := HR.go hB; clear hB; clear hown
  by_cases hlt : o < outer
  ·obtain ⟨x, hx⟩ : ∃ x, o * n = x := ⟨_, rfl⟩
   obtain ⟨y, hy⟩ : ∃ y, (o + 1) * n = y := ⟨_, rfl⟩
   have hxy : x + n = y := by rw [← hx, ← hy, Nat.add_mul]; omega
   have hym : y ≤ m := by rw [← HM.out, HLL.out, ← hy]; exact Nat.mul_le_mul_right _ hlt
   have HYL := Lib.hid (show y ≤ l.length by rw [HM.out]; exact hym)
   obtain ⟨r, hr⟩ : ∃ r, (l.take y).drop x = r := ⟨_, rfl⟩
   have hrl : r.length = n := by rw [← hr, cut_len l (by omega) (by rw [HM.out]; exact hym)]; omega
   have HRL := Lib.hid hrl
   have HRG := Lib.hid (show lineG false l n 1 o 0 = r by rw [← hr, ← hx, ← hy]; exact (line_cut l HLL.out hlt).symm)
   have HRR := Lib.hid hr; have HXX := Lib.hid hx; have HYY := Lib.hid hy
   obtain ⟨pl, hpl⟩ : ∃ pl, List.zipWith (tab 8) r mk = pl := ⟨_, rfl⟩
   have HPL := Lib.hid hpl
   have hpll : pl.length = n := by rw [← hpl, List.length_zipWith, hrl, HMK.out]; omega
   have HPLL := Lib.hid hpll
   obtain ⟨A, hA⟩ : ∃ A, cnt (sq pl) pl.length = A := ⟨_, rfl⟩
   obtain ⟨B, hBB⟩ : ∃ B, cnt (sq r) r.length = B := ⟨_, rfl⟩
   have HAA := Lib.hid hA; have HBB := Lib.hid hBB; have hno := HNO.out
   have hA1 : A ≤ 1048576 := by rw [← hA]; exact Nat.le_trans (cnt_le _ _) (by omega)
   have hB1 : B ≤ 1048576 := by rw [← hBB]; exact Nat.le_trans (cnt_le _ _) (by omega)
   have HCI := Lib.hid (show cntI r mk = 2 * (A : Int) - (B : Int) by
    unfold cntI
    rw [hpl, ← hA, ← hBB, hpll, hrl])
   have HXK := Lib.hid (show xs[o]'(by rw [HXL.out]; exact hlt) = .int .i64 (2 * (A : Int) - (B : Int)) by rw [HXG.out, HRG.out, HCI.out])
   have HW1 := Lib.hid (show IntKind.i64.wrap (2 * (A : Int)) = 2 * (A : Int) from IntWalk.i64_in _ (by omega))
   have HW2 := Lib.hid (show IntKind.i64.wrap (2 * (A : Int) - (B : Int)) = 2 * (A : Int) - (B : Int) from IntWalk.i64_in _ (by omega))
   clear hx hy hxy hym hr hrl hpl hpll hA hBB hno; have cHA0 := HA.out.2.1; have cHA1 := HA.out.2.2.1; have cHD0 := HD.out.2.1; have cHD1 := HD.out.2.2.1; have cHR0 := HR.out.2.1
   go_wp2_with fail
   clear cHA0 cHA1 cHD0 cHD1 cHR0
   refine wp_mid (fun s0 s1 w' => ∃ (ar : Option Addr) (cr rr : Nat), s1 = ((((((s0.put (some 21) (.agg #[.int .i64 m, .slice ao L cap])).put (some 22) (.int .i64 (o : Int))).put (some 23) (.agg #[.int .i64 n, .slice bo KW cbp])).put (some 24) (.int .i64 (n : Int))).put (some 25) (.agg #[.int .i64 r.length, .slice ar ((r.length + 63) / 64) cr])).put (some 9) (.pointer (some ⟨rr, 0, none⟩))) ∧ IsBits w' (.agg #[.int .i64 r.length, .slice ar ((r.length + 63) / 64) cr]) r ∧ At2 w' rr (.int .i64 r.length) (.slice ar ((r.length + 63) / 64) cr) ∧ wr.heap.size ≤ rr ∧ Below wr.heap.size wr w') ?_ ?_
   ·have HW0 := Lib.hid (Below.refl wr.heap.size wr)
    have HAS := HA
    have HDS := HD
    obtain ⟨W11, hWD, hB⟩ := drwn wr
    replace HV := HV.go hB; replace HVM := HVM.go hB; replace HA := HA.go hB; replace HD := HD.go hB; replace HW0 := cb hB HW0; clear hB
    refine rgn (S := fun w' => w'.cell? ⟨w.heap.size, 0, none⟩ = some (.int .i64 m) ∧ w'.cell? ⟨w.heap.size, 1, none⟩ = some (.slice ao L cap) ∧ w'.cell? ⟨w.heap.size + 1, 0, none⟩ = some (.int .i64 n) ∧ w'.cell? ⟨w.heap.size + 1, 1, none⟩ = some (.slice bo KW cbp)) hWD ⟨HA.out.2.1, HA.out.2.2.1, HD.out.2.1, HD.out.2.2.1⟩ (fun hHeld => ?_)
    clear hWD; apply tm 0; apply tm 1; apply tm 2
    refine wpAnyH_ready (rs := [3, 5]) (by kernel_rfl) (by simp) ?_
    refine AllReadyH.cons (o := _) rfl (fun K hK => ?_) ?_
    ·clear hHeld; go_simp
     refine (len_calls _ mk _ HVM.out).mono ?_
     rintro e W12 ⟨rfl, hB⟩
     replace HV := HV.go hB; replace HVM := HVM.go hB; replace HA := HA.go hB; replace HD := HD.go hB; replace HW0 := cb hB HW0; rw [HMK.out]; clear hB
     refine hK.out _ _ ⟨HA.out.2.1, HA.out.2.2.1, HD.out.2.1, HD.out.2.2.1⟩ (fun hHeld => ?_)
     clear hK K
     refine wpAnyH_ready (rs := [4, 5]) (by kernel_rfl) (by simp) ?_
     refine AllReadyH.cons (o := _) rfl (fun K hK => ?_) ?_
     ·clear hHeld; go_simp
      refine (fopiece_calls _ l o n x y _ HV.out HL.out HN.out HXX.out HYY.out HYL.out).mono ?_
      rintro e W13 ⟨vr, rfl, hvr, hB⟩
      replace HV := HV.go hB; replace HVM := HVM.go hB; replace HA := HA.go hB; replace HD := HD.go hB; replace HW0 := cb hB HW0
      rw [HRR.out] at hvr
      have Hr := Lib.hid hvr
      obtain ⟨ar, cr, rfl, hcr⟩ := hvr.opened
      clear hvr hcr; clear hB
      refine hK.out _ _ ⟨HA.out.2.1, HA.out.2.2.1, HD.out.2.1, HD.out.2.2.1⟩ (fun hHeld => ?_)
      clear hK K
      apply rdy 5; intro K hK; clear hHeld; go_simp
      obtain ⟨W14, hWn, hB, hNB⟩ := ahd2 W13 (.int .i64 0) (.slice none 0 0) 74
      have hbk : wr.heap.size ≤ W13.heap.size := HW0.out.size
      rw [hWn]; clear hWn
      obtain ⟨rr, hnm⟩ : ∃ x, W13.heap.size = x := ⟨_, rfl⟩
      rw [hnm] at hNB hbk ⊢
      replace HV := HV.go hB; replace HVM := HVM.go hB; replace HA := HA.go hB; replace HD := HD.go hB; replace HW0 := cb hB HW0; replace Hr := Hr.go hB; have HRV := Lib.hid hNB; have HBK := Lib.hid hbk; clear hNB hB hnm hbk
      refine hK.out _ _ ⟨HA.out.2.1, HA.out.2.2.1, HD.out.2.1, HD.out.2.2.1⟩ (fun hHeld => ?_)
      clear hK K
      apply rdy 6; intro K hK; clear hHeld; have s0 := HRV.out.2.1; have t0 := HRV.out.2.2.2 0; have s1 := HRV.out.2.2.1; have t1 := HRV.out.2.2.2 1; go_simp; clear s0 t0 s1 t1
      obtain ⟨W15, hWn⟩ : ∃ xw9, (W14.setCell ⟨rr, 0, none⟩ (.int .i64 r.length)).setCell ⟨rr, 1, none⟩ (.slice ar ((r.length + 63) / 64) cr) = xw9 := ⟨_, rfl⟩
      rw [hWn]
      replace Hr := Lib.hid (show IsBits W15 (.agg #[.int .i64 r.length, .slice ar ((r.length + 63) / 64) cr]) r by rw [← hWn]; exact Hr.out.set2 HRV.out _ _)
      replace HRV := Lib.hid (show At2 W15 rr (.int .i64 r.length) (.slice ar ((r.length + 63) / 64) cr) by rw [← hWn]; exact at2_put HRV.out _ _)
      replace HW0 := Lib.hid (show Below wr.heap.size wr W15 by rw [← hWn]; exact below_setc HW0.out HBK.out _ _)
      replace HA := Lib.hid (show At2 W15 w.heap.size (.int .i64 m) (.slice ao L cap) from HAS.out.below HW0.out)
      replace HD := Lib.hid (show At2 W15 (w.heap.size + 1) (.int .i64 n) (.slice bo KW cbp) from HDS.out.below HW0.out)
      clear hWn
      refine hK.out _ _ ⟨HA.out.2.1, HA.out.2.2.1, HD.out.2.1, HD.out.2.2.1⟩ (fun hHeld => ?_)
      clear hK K
      refine wpAnyH_done (by kernel_rfl) ?_ _
      clear hHeld
      refine ⟨rfl, ar, cr, rr, ?_, Hr.out, HRV.out, HBK.out, HW0.out⟩
      try simp only [Act.put, List.setIfInBounds_toArray, List.set_cons_zero, List.set_cons_succ]
      all_goals first | rfl | kernel_rfl
     refine AllReadyH.cons (o := _) rfl (fun K hK => ?_) ?_
     ·clear hHeld; go_simp
      obtain ⟨W13, hWn, hB, hNB⟩ := ahd2 W12 (.int .i64 0) (.slice none 0 0) 74
      have hbk : wr.heap.size ≤ W12.heap.size := HW0.out.size
      rw [hWn]; clear hWn
      obtain ⟨rr, hnm⟩ : ∃ x, W12.heap.size = x := ⟨_, rfl⟩
      rw [hnm] at hNB hbk ⊢
      replace HV := HV.go hB; replace HVM := HVM.go hB; replace HA := HA.go hB; replace HD := HD.go hB; replace HW0 := cb hB HW0; have HRV := Lib.hid hNB; have HBK := Lib.hid hbk; clear hNB hB hnm hbk
      refine hK.out _ _ ⟨HA.out.2.1, HA.out.2.2.1, HD.out.2.1, HD.out.2.2.1⟩ (fun hHeld => ?_)
      clear hK K
      apply rdy 4; intro K hK; clear hHeld; go_simp
      refine (fopiece_calls _ l o n x y _ HV.out HL.out HN.out HXX.out HYY.out HYL.out).mono ?_
      rintro e W14 ⟨vr, rfl, hvr, hB⟩
      replace HV := HV.go hB; replace HVM := HVM.go hB; replace HA := HA.go hB; replace HD := HD.go hB; replace HW0 := cb hB HW0; replace HRV := HRV.go hB
      rw [HRR.out] at hvr
      have Hr := Lib.hid hvr
      obtain ⟨ar, cr, rfl, hcr⟩ := hvr.opened
      clear hvr hcr; clear hB
      refine hK.out _ _ ⟨HA.out.2.1, HA.out.2.2.1, HD.out.2.1, HD.out.2.2.1⟩ (fun hHeld => ?_)
      clear hK K
      apply rdy 6; intro K hK; clear hHeld; have s0 := HRV.out.2.1; have t0 := HRV.out.2.2.2 0; have s1 := HRV.out.2.2.1; have t1 := HRV.out.2.2.2 1; go_simp; clear s0 t0 s1 t1
      obtain ⟨W15, hWn⟩ : ∃ xw9, (W14.setCell ⟨rr, 0, none⟩ (.int .i64 r.length)).setCell ⟨rr, 1, none⟩ (.slice ar ((r.length + 63) / 64) cr) = xw9 := ⟨_, rfl⟩
      rw [hWn]
      replace Hr := Lib.hid (show IsBits W15 (.agg #[.int .i64 r.length, .slice ar ((r.length + 63) / 64) cr]) r by rw [← hWn]; exact Hr.out.set2 HRV.out _ _)
      replace HRV := Lib.hid (show At2 W15 rr (.int .i64 r.length) (.slice ar ((r.length + 63) / 64) cr) by rw [← hWn]; exact at2_put HRV.out _ _)
      replace HW0 := Lib.hid (show Below wr.heap.size wr W15 by rw [← hWn]; exact below_setc HW0.out HBK.out _ _)
      replace HA := Lib.hid (show At2 W15 w.heap.size (.int .i64 m) (.slice ao L cap) from HAS.out.below HW0.out)
      replace HD := Lib.hid (show At2 W15 (w.heap.size + 1) (.int .i64 n) (.slice bo KW cbp) from HDS.out.below HW0.out)
      clear hWn
      refine hK.out _ _ ⟨HA.out.2.1, HA.out.2.2.1, HD.out.2.1, HD.out.2.2.1⟩ (fun hHeld => ?_)
      clear hK K
      refine wpAnyH_done (by kernel_rfl) ?_ _
      clear hHeld
      refine ⟨rfl, ar, cr, rr, ?_, Hr.out, HRV.out, HBK.out, HW0.out⟩
      try simp only [Act.put, List.setIfInBounds_toArray, List.set_cons_zero, List.set_cons_succ]
      all_goals first | rfl | kernel_rfl
     exact AllReadyH.nil
    refine AllReadyH.cons (o := _) rfl (fun K hK => ?_) ?_
    ·clear hHeld; go_simp
     obtain ⟨W12, hWn, hB, hNB⟩ := ahd2 W11 (.int .i64 0) (.slice none 0 0) 74
     have hbk : wr.heap.size ≤ W11.heap.size := HW0.out.size
     rw [hWn]; clear hWn
     obtain ⟨rr, hnm⟩ : ∃ x, W11.heap.size = x := ⟨_, rfl⟩
     rw [hnm] at hNB hbk ⊢
     replace HV := HV.go hB; replace HVM := HVM.go hB; replace HA := HA.go hB; replace HD := HD.go hB; replace HW0 := cb hB HW0; have HRV := Lib.hid hNB; have HBK := Lib.hid hbk; clear hNB hB hnm hbk
     refine hK.out _ _ ⟨HA.out.2.1, HA.out.2.2.1, HD.out.2.1, HD.out.2.2.1⟩ (fun hHeld => ?_)
     clear hK K
     apply rdy 3; intro K hK; clear hHeld; go_simp
     refine (len_calls _ mk _ HVM.out).mono ?_
     rintro e W13 ⟨rfl, hB⟩
     replace HV := HV.go hB; replace HVM := HVM.go hB; replace HA := HA.go hB; replace HD := HD.go hB; replace HW0 := cb hB HW0; replace HRV := HRV.go hB; rw [HMK.out]; clear hB
     refine hK.out _ _ ⟨HA.out.2.1, HA.out.2.2.1, HD.out.2.1, HD.out.2.2.1⟩ (fun hHeld => ?_)
     clear hK K
     apply rdy 4; intro K hK; clear hHeld; go_simp
     refine (fopiece_calls _ l o n x y _ HV.out HL.out HN.out HXX.out HYY.out HYL.out).mono ?_
     rintro e W14 ⟨vr, rfl, hvr, hB⟩
     replace HV := HV.go hB; replace HVM := HVM.go hB; replace HA := HA.go hB; replace HD := HD.go hB; replace HW0 := cb hB HW0; replace HRV := HRV.go hB
     rw [HRR.out] at hvr
     have Hr := Lib.hid hvr
     obtain ⟨ar, cr, rfl, hcr⟩ := hvr.opened
     clear hvr hcr; clear hB
     refine hK.out _ _ ⟨HA.out.2.1, HA.out.2.2.1, HD.out.2.1, HD.out.2.2.1⟩ (fun hHeld => ?_)
     clear hK K
     apply rdy 6; intro K hK; clear hHeld; have s0 := HRV.out.2.1; have t0 := HRV.out.2.2.2 0; have s1 := HRV.out.2.2.1; have t1 := HRV.out.2.2.2 1; go_simp; clear s0 t0 s1 t1
     obtain ⟨W15, hWn⟩ : ∃ xw9, (W14.setCell ⟨rr, 0, none⟩ (.int .i64 r.length)).setCell ⟨rr, 1, none⟩ (.slice ar ((r.length + 63) / 64) cr) = xw9 := ⟨_, rfl⟩
     rw [hWn]
     replace Hr := Lib.hid (show IsBits W15 (.agg #[.int .i64 r.length, .slice ar ((r.length + 63) / 64) cr]) r by rw [← hWn]; exact Hr.out.set2 HRV.out _ _)
     replace HRV := Lib.hid (show At2 W15 rr (.int .i64 r.length) (.slice ar ((r.length + 63) / 64) cr) by rw [← hWn]; exact at2_put HRV.out _ _)
     replace HW0 := Lib.hid (show Below wr.heap.size wr W15 by rw [← hWn]; exact below_setc HW0.out HBK.out _ _)
     replace HA := Lib.hid (show At2 W15 w.heap.size (.int .i64 m) (.slice ao L cap) from HAS.out.below HW0.out)
     replace HD := Lib.hid (show At2 W15 (w.heap.size + 1) (.int .i64 n) (.slice bo KW cbp) from HDS.out.below HW0.out)
     clear hWn
     refine hK.out _ _ ⟨HA.out.2.1, HA.out.2.2.1, HD.out.2.1, HD.out.2.2.1⟩ (fun hHeld => ?_)
     clear hK K
     refine wpAnyH_done (by kernel_rfl) ?_ _
     clear hHeld
     refine ⟨rfl, ar, cr, rr, ?_, Hr.out, HRV.out, HBK.out, HW0.out⟩
     try simp only [Act.put, List.setIfInBounds_toArray, List.set_cons_zero, List.set_cons_succ]
     all_goals first | rfl | kernel_rfl
    exact AllReadyH.nil
   rintro _ wmr ⟨ar, cr, rr, rfl, hr, hAr, hGr, hB⟩
   have Hr := Lib.hid hr; have HVr := Lib.hid hAr; have HGr := Lib.hid hGr; clear hr hAr hGr; replace HB := cb hB HB; replace HTB := HTB.go hB; replace HV := HV.go hB; replace HVM := HVM.go hB; replace HA := HA.go hB; replace HD := HD.go hB; replace HR := HR.go hB
   replace HO := Lib.hid (owns_below HO.out hB)
   replace HKW := cb hB HKW; replace HWR := cb hB HWR; clear hB
   simp only [Act.put, List.setIfInBounds_toArray, List.set_cons_zero, List.set_cons_succ]
   have cHA0 := HA.out.2.1; have cHA1 := HA.out.2.2.1; have cHD0 := HD.out.2.1; have cHD1 := HD.out.2.2.1; have cHR0 := HR.out.2.1; have cHVr0 := HVr.out.2.1; have cHVr1 := HVr.out.2.2.1
   go_wp2_with fail
   refine (truth_yes 8 (by decide) _ _ r mk _ Hr.out HVM.out (by rw [HRL.out, HMK.out]) (by rw [HRL.out]; exact HNO.out)).mono ?_
   rintro e W11 ⟨vp, rfl, hvp, hB⟩
   clear cHA0 cHA1 cHD0 cHD1 cHR0 cHVr0 cHVr1; replace HB := cb hB HB; replace HTB := HTB.go hB; replace HV := HV.go hB; replace HVM := HVM.go hB; replace HA := HA.go hB; replace HD := HD.go hB; replace HR := HR.go hB
   replace HO := Lib.hid (owns_below HO.out hB)
   replace HKW := cb hB HKW; replace HWR := cb hB HWR; replace Hr := Hr.go hB; replace HVr := HVr.go hB
   rw [HPL.out] at hvp
   have Hp := Lib.hid hvp
   obtain ⟨ap, cp, rfl, hcp⟩ := hvp.opened
   clear hvp hcp; clear hB
   have HGP := Lib.hid (show wr.heap.size ≤ W11.heap.size from HWR.out.size)
   obtain ⟨W12, hWn, hB, hNB⟩ := ahd2 W11 (.int .i64 pl.length) (.slice ap ((pl.length + 63) / 64) cp) 74
   replace HB := cb hB HB; replace HTB := HTB.go hB; replace HV := HV.go hB; replace HVM := HVM.go hB; replace HA := HA.go hB; replace HD := HD.go hB; replace HR := HR.go hB
   replace HO := Lib.hid (owns_below HO.out hB)
   replace HKW := cb hB HKW; replace HWR := cb hB HWR; replace Hr := Hr.go hB; replace HVr := HVr.go hB; replace Hp := Hp.go hB; have HVp := Lib.hid hNB; clear hNB hB; have cHA0 := HA.out.2.1; have cHA1 := HA.out.2.2.1; have cHD0 := HD.out.2.1; have cHD1 := HD.out.2.2.1; have cHR0 := HR.out.2.1; have cHVr0 := HVr.out.2.1; have cHVr1 := HVr.out.2.2.1; have cHVp0 := HVp.out.2.1; have cHVp1 := HVp.out.2.2.1
   go_wp2_with fail
   clear hWn; clear cHA0 cHA1 cHD0 cHD1 cHR0 cHVr0 cHVr1 cHVp0 cHVp1
   have HBW := Lib.hid (show bk < wr.heap.size from World.block_lt_of_cell? wr _ (owns_cell HOR.out o (by rw [fillTo_len _ _ _ (by rw [HXL.out]; exact ho), HXL.out]; exact hlt)))
   obtain ⟨W13, hWD, hB⟩ := drwn W12
   replace HO := Lib.hid (owns_below HO.out hB)
   replace HKW := cb hB HKW; replace Hr := Hr.go hB; replace HVr := HVr.go hB; replace Hp := Hp.go hB; replace HVp := HVp.go hB; clear hB
   refine rgn (S := fun w' => w'.cell? ⟨W11.heap.size, 0, none⟩ = some (.int .i64 pl.length) ∧ w'.cell? ⟨W11.heap.size, 1, none⟩ = some (.slice ap ((pl.length + 63) / 64) cp) ∧ w'.cell? ⟨rr, 0, none⟩ = some (.int .i64 r.length) ∧ w'.cell? ⟨rr, 1, none⟩ = some (.slice ar ((r.length + 63) / 64) cr)) hWD ⟨HVp.out.2.1, HVp.out.2.2.1, HVr.out.2.1, HVr.out.2.2.1⟩ (fun hHeld => ?_)
   clear hWD; apply tk 0; apply tk 1; apply tk 2; apply tk 5
   apply rdy 3; intro K hK; clear hHeld; go_simp
   refine (count_calls _ pl _ Hp.out (by rw [HPLL.out]; exact HNO.out)).mono ?_
   rintro e W14 ⟨rfl, hB⟩
   replace HO := Lib.hid (owns_below HO.out hB)
   replace HKW := cb hB HKW; replace Hr := Hr.go hB; replace HVr := HVr.go hB; replace Hp := Hp.go hB; replace HVp := HVp.go hB; rw [HAA.out]; clear hB
   refine hK.out _ _ ⟨HVp.out.2.1, HVp.out.2.2.1, HVr.out.2.1, HVr.out.2.2.1⟩ (fun hHeld => ?_)
   clear hK K; apply tk 4
   apply rdy 6; intro K hK; clear hHeld; go_simp
   refine (count_calls _ r _ Hr.out (by rw [HRL.out]; exact HNO.out)).mono ?_
   rintro e W15 ⟨rfl, hB⟩
   replace HO := Lib.hid (owns_below HO.out hB)
   replace HKW := cb hB HKW; replace Hr := Hr.go hB; replace HVr := HVr.go hB; replace Hp := Hp.go hB; replace HVp := HVp.go hB; rw [HBB.out]; clear hB
   refine hK.out _ _ ⟨HVp.out.2.1, HVp.out.2.2.1, HVr.out.2.1, HVr.out.2.2.1⟩ (fun hHeld => ?_)
   clear hK K; apply tk 7; apply tk 8
   apply rdy 9; intro K hK; clear hHeld
   have hcw := owns_cell HO.out o (by rw [fillTo_len _ _ _ (by rw [HXL.out]; exact ho), HXL.out]; exact hlt)
   have hfr := World.ownsRow.frozenAt HO.out o
   go_simp; clear hcw hfr
   rw [HW1.out, HW2.out]
   obtain ⟨W16, hWn⟩ : ∃ xw9, W15.setCell ⟨bk, o, none⟩ (.int .i64 (2 * (A : Int) - (B : Int))) = xw9 := ⟨_, rfl⟩
   rw [hWn]
   have HO9 := Lib.hid (show W16.ownsRow bk 2 1 (.slice (some ⟨bk, 0, none⟩) outer outer) outer (fillTo xs (.int .i64 0) (o + 1)) by
    have h9 := (World.ownsRow.stored HO.out o (xs[o]'(by rw [HXL.out]; exact hlt))).1
    rw [fillTo_set, HXK.out, hWn] at h9
    exact h9)
   have HK9 := Lib.hid (show Below W1.heap.size W1 W16 by rw [← hWn]; exact HKW.out.setCell (by rw [HBK.out]; exact Nat.le_refl _) _)
   replace HVr := Lib.hid (show At2 W16 rr _ _ by rw [← hWn]; exact HVr.out.grown (grown_setCell _ ⟨bk, o, none⟩ _) (by have := HGr.out; have := HBW.out; simp; omega))
   replace HVp := Lib.hid (show At2 W16 W11.heap.size _ _ by rw [← hWn]; exact HVp.out.grown (grown_setCell _ ⟨bk, o, none⟩ _) (by have := HGP.out; have := HBW.out; simp; omega))
   clear hWn
   refine hK.out _ _ ⟨HVp.out.2.1, HVp.out.2.2.1, HVr.out.2.1, HVr.out.2.2.1⟩ (fun hHeld => ?_)
   clear hK K
   refine wpAnyH_done (by kernel_rfl) ?_ _
   clear hHeld; have hom := HOM.out
   go_wp2
   go_roundw
   case rel => exact ⟨o + 1, by omega, by go_num, HO9.out, HK9.out⟩
   case measure => simp [intOf]; omega
  ·have hoo : o = outer := by omega
   have HOW := Lib.hid (show Slc wr (fun b => bk ≤ b) (.slice (some ⟨bk, 0, none⟩) outer outer) zs.length (ints zs) by
    have := Slc.owned HO.out
    rw [hoo, ← HXL.out, fillTo_all, HXL.out, HXB.out] at this
    rw [HBL.out]; exact this)
   have HBM := Lib.hid (show zs.length ≤ 1048576 by rw [HBL.out]; exact HOM.out)
   have HZM := Lib.hid (show ∀ z ∈ zs, sm z = true by rw [← HZS.out]; exact HSM.out)
   have HZA := Lib.hid (show zs.all sm = true from List.all_eq_true.2 HZM.out)
   have HWS := Lib.hid HKW.out.size; clear hoo; have cHA0 := HA.out.2.1; have cHA1 := HA.out.2.2.1; have cHD0 := HD.out.2.1; have cHD1 := HD.out.2.2.1; have cHR0 := HR.out.2.1; have zHR0 := HR.out.2.2 0
   go_wp2_with fail
   refine (vints_yes _ zs _ HOW.out (by have := HBM.out; omega) HZA.out).mono ?_
   rintro e W11 ⟨uz, rfl, huz, hB⟩
   clear cHA0 cHA1 cHD0 cHD1 cHR0 zHR0; replace HB := cb hB HB; replace HTB := HTB.go hB; replace HV := HV.go hB; replace HVM := HVM.go hB; replace HA := HA.go hB; replace HD := HD.go hB; replace HR := HR.go hB; replace HKW := cb hB HKW; replace HWR := cb hB HWR; replace HOW := HOW.go hB
   have HZ := Lib.hid (show IsV W11 (fun b => wr.heap.size ≤ b) uz (.ints zs) from huz)
   have hsz := huz.store; clear huz; clear hB
   obtain ⟨W12, hWn, hB, hNB⟩ := ahd1 W11 (uz) 35
   replace HB := cb hB HB; replace HTB := HTB.go hB; replace HV := HV.go hB; replace HVM := HVM.go hB; replace HA := HA.go hB; replace HD := HD.go hB; replace HR := HR.go hB; replace HKW := cb hB HKW; replace HWR := cb hB HWR; replace HOW := HOW.go hB; replace HZ := HZ.go hB; have HZV := Lib.hid hNB; clear hNB hB; have cHA0 := HA.out.2.1; have cHA1 := HA.out.2.2.1; have cHD0 := HD.out.2.1; have cHD1 := HD.out.2.2.1
   have cHR0 := HR.out.2.1; have cHZV0 := HZV.out.2.1
   go_wp2_with fail
   clear hWn; have hO := HWR.out.size
   refine (squeeze_calls _ (.ints zs) _ HZ.out HBM.out HZM.out HTB.out).mono ?_
   rintro e W13 ⟨uq, rfl, huq, hB⟩
   clear cHA0 cHA1 cHD0 cHD1 cHR0 cHZV0; replace HB := cb hB HB; replace HTB := HTB.go hB; replace HV := HV.go hB; replace HVM := HVM.go hB; replace HA := HA.go hB; replace HD := HD.go hB; replace HR := HR.go hB; replace HKW := cb hB HKW; replace HWR := cb hB HWR; replace HOW := HOW.go hB; replace HZ := HZ.go hB; replace HZV := HZV.go hB
   have HQ := Lib.hid (show IsV W13 (fun b => w.heap.size + 3 ≤ b) uq (VV.ints zs).sq from huq.wide (fun b _ (h : wr.heap.size ≤ b ∨ W12.heap.size ≤ b) => by have := HWS.out; have := HRK0.out; omega))
   have hsq := huq.store; clear huq hO; clear hB; have cHA0 := HA.out.2.1; have cHA1 := HA.out.2.2.1; have cHD0 := HD.out.2.1; have cHD1 := HD.out.2.2.1; have cHR0 := HR.out.2.1; have zHR0 := HR.out.2.2 0; have cHZV0 := HZV.out.2.1
   go_wp2_with fail
   refine bodyPost_ret (v := .agg #[uq]) (by simp [results, Tryz.results107, go_sem, cHR0]) rfl ⟨uq, rfl, ?_, HB.out.setCell (by show w.heap.size ≤ w.heap.size + 1 + 1; omega) _⟩
   rw [HZS.out, ← sqW_eq HBM.out HZM.out]
   exact HQ.out.keep (Kept.setCell _ _ _ (by simp)) (fun b _ h => h)
end Go.Proofs.YtghojndkcndjbaaGreatDoor

/- Layer 13, walked: ofCells of package fold. -/
namespace Go.Proofs.YtghojndkcndjbaaGreatDoor
set_option maxRecDepth 100000
open Go.RowKit Fl
set_option linter.unusedVariables false

theorem IsBits.put2 {w : World} {v : Value} {l : List Bool} (h : IsBits w v l) {b : Nat} {k : Int} {s : Value} (hA : At2 w b (.int .i64 k) s) (hs : ∀ z : Nat, s ≠ .int .u64 (z : Int)) (x y : Value) : IsBits ((w.setCell ⟨b, 0, none⟩ x).setCell ⟨b, 1, none⟩ y) v l := by
 have h1 := h.set hA.2.1 (fun z e => by simp at e) x
 have e1 : (w.setCell ⟨b, 0, none⟩ x).cell? ⟨b, 1, none⟩ = some s := (World.cell?_setCell_other _ _ _ _ (by simp)).trans hA.2.2.1
 exact h1.set e1 hs y
theorem one_bools (l : List Bool) : ∀ u ∈ bools l, u.oneCell' = true := by
 intro u hu; obtain ⟨z, _, rfl⟩ := List.mem_map.1 hu; rfl
set_option maxHeartbeats 8000000 in
theorem focells_calls (t : Nat) (v : Value) (l : List Bool) (outer n inner : Nat) (w : World) (hv : IsBits w v l) (ht : t < 256) (hl : l.length ≤ 1048576) (hll : l.length = outer * n * inner) (hn : 0 < n) (hno : n ≤ 1048576) (hi : 0 < inner) (him : inner ≤ 1048576) (hom : outer ≤ 1048576) (hoi : outer * inner ≤ 1048576) :
  Calls Tryz.prog 105 #[.int .u8 (t : Int), v, .int .i64 (outer : Int), .int .i64 (n : Int), .int .i64 (inner : Int)] w fun e w' => ∃ v', e = .returned v' ∧ IsBitsX w' (fun b => w.heap.size + 2 ≤ b) v' (outB t l outer n inner) ∧ Below w.heap.size w w' := by
 obtain ⟨i0, hi0, hz0, hz1, hz2⟩ := info_parts info_bool
 have HI0 := Lib.hid (And.intro hi0 (And.intro hz0 (And.intro hz1 hz2)))
 clear hi0 hz0 hz1 hz2; have HL := Lib.hid hl; have HLL := Lib.hid hll; have HT := Lib.hid ht; have HN := Lib.hid hn; have HNO := Lib.hid hno; have HIP := Lib.hid hi; have HIM := Lib.hid him; have HOM := Lib.hid hom
 obtain ⟨D, hD⟩ : ∃ D, outer * inner = D := ⟨_, rfl⟩
 rw [hD] at hoi
 have qD : IntKind.i64.wrap ((outer : Int) * (inner : Int)) = (D : Int) := by rw [← Int.natCast_mul, hD]; exact IntWalk.i64_in _ (by omega)
 have HD := Lib.hid hD; have HDM := Lib.hid hoi
 obtain ⟨m, hm⟩ : ∃ m, l.length = m := ⟨_, rfl⟩
 obtain ⟨ao, cap, rfl, hcx⟩ := hv.opened
 have HV := Lib.hid hv
 rw [hm] at HV ⊢
 have HM := Lib.hid hm
 obtain ⟨L, hL⟩ : ∃ L, (m + 63) / 64 = L := ⟨_, rfl⟩
 rw [hL] at HV ⊢
 obtain ⟨W1, hW1⟩ : ∃ W1, W1 = (w.alloc (.cells #[.int .i64 m, .slice ao L cap] 74)).alloc (.cells #[.int .i64 0, .slice none 0 0] 74) := ⟨_, rfl⟩
 have HA := Lib.hid (show At2 W1 w.heap.size (.int .i64 m) (.slice ao L cap) by rw [hW1]; exact (At2.new _ _ _ _).alloc _)
 have HR := Lib.hid (show At2 W1 (w.heap.size + 1) (.int .i64 0) (.slice none 0 0) by
  rw [hW1]; have := At2.new (w.alloc (.cells #[.int .i64 m, .slice ao L cap] 74)) (.int .i64 0) (.slice none 0 0) 74; simpa using this)
 have HB := Lib.hid (show Below w.heap.size w W1 by rw [hW1]; exact ((Below.refl _ _).alloc (Nat.le_refl _) _).alloc (by simp) _)
 replace HV := Lib.hid (HV.out.keep (keep_below HB.out))
 have hfold := hW1.symm
 clear hcx hL hv hl hll ht hn hno hi him hom hoi hW1 hm hD
 obtain ⟨bk, hbk⟩ : ∃ bk, W1.heap.size = bk := ⟨_, rfl⟩
 have HBK := Lib.hid hbk
 have HDX := Lib.hid (show D ≤ maxLen by have := HDM.out; unfold maxLen; omega)
 have HDY := Lib.hid (show i0.bytes * D ≤ 281474976710656 by rw [HI0.out.2.2.2]; have := HDM.out; omega)
 have cHA0 := HA.out.2.1; have cHA1 := HA.out.2.2.1; have cHR0 := HR.out.2.1; have cHR1 := HR.out.2.2.1; have zHR0 := HR.out.2.2.2 0; have zHR1 := HR.out.2.2.2 1
 go_enter Tryz.func105, Tryz.ntmps105
 go_wp2_with ((with_reducible refine wpList_make_own _ rfl _ _ 52 rfl bk 4 i0 (.bool false) 1 Tryz.underlying52 HI0.out.1 HI0.out.2.1 HI0.out.2.2.1 .i64 .i64 _ D rfl rfl rfl HDY.out HDX.out (Nat.le_of_eq HBK.out.symm) ?_))
 clear hfold
 intro W2 hown hgr
 have HO := Lib.hid hown
 have hB : Below W1.heap.size W1 W2 := (Below.refl _ _).grown hgr (Nat.le_refl _) (fun k hk => by cases hk)
 have HKW := Lib.hid hB
 have HB1 := HB
 have HV1 := HV
 have HA1 := HA
 have HR1 := HR
 clear hown hgr; clear cHA0 cHA1 cHR0 cHR1 zHR0 zHR1; replace HB := cb hB HB; replace HV := HV.go hB; replace HA := HA.go hB; replace HR := HR.go hB; clear hB; clear hbk qD; have cHA0 := HA.out.2.1; have cHA1 := HA.out.2.2.1; have cHR0 := HR.out.2.1; have cHR1 := HR.out.2.2.1
 go_wp2_with fail
 clear cHA0 cHA1 cHR0 cHR1
 go_loopw [11, 20] (fun f i wr => ∃ o : Nat, o ≤ outer ∧ i = .int .i64 o ∧ wr.ownsRow bk 4 1 f (outB t l o n inner).length (bools (outB t l o n inner)) ∧ Below W1.heap.size W1 wr) (fun _ i _ => outer - (intOf i).toNat)
 case atStart => exact ⟨0, by omega, rfl, by rw [outB_zero]; exact HO.out, HKW.out⟩
 case round =>
  obtain ⟨o, ho, rfl, hown, hB'⟩ := hrel
  clear HO; have HO := Lib.hid hown
  have HKW := Lib.hid hB'
  have HWR := Lib.hid (Below.refl wr.heap.size wr)
  skip
  have HB := Lib.hid (HB1.out.trans (hB'.mono HB1.out.size))
  have HV := Lib.hid (HV1.out.keep (keep_below hB'))
  have HA := Lib.hid (HA1.out.below hB')
  have HR := Lib.hid (HR1.out.below hB')
  clear hown hB'
  by_cases hlt : o < outer
  ·obtain ⟨wo, rfl⟩ : ∃ wo, wo = wr := ⟨_, rfl⟩
   have HBr := HB
   have HVr := HV
   have HAr := HA
   have HRr := HR
   have HOr := HO
   have HKWr := HKW
   obtain ⟨N1, hN1⟩ : ∃ N1, n = N1 + 1 := ⟨n - 1, by have := HN.out; omega⟩
   have hip := HIP.out; have him := HIM.out
   obtain ⟨X, hX⟩ : ∃ X, o * n = X := ⟨_, rfl⟩
   obtain ⟨Y, hY⟩ : ∃ Y, (o + 1) * n = Y := ⟨_, rfl⟩
   obtain ⟨AT, hAT⟩ : ∃ AT, X + N1 = AT := ⟨_, rfl⟩
   have hXY : Y = AT + 1 := by rw [← hY, ← hAT, Nat.add_mul, hX]; omega
   have hYm : Y * inner ≤ m := by rw [← HM.out, HLL.out, ← hY]; exact Nat.mul_le_mul_right _ (Nat.mul_le_mul_right _ hlt)
   have hYb : Y ≤ 1048576 := Nat.le_trans (Nat.le_trans (Nat.le_mul_of_pos_right _ hip) hYm) (by rw [← HM.out]; exact HL.out)
   obtain ⟨x0, hx0⟩ : ∃ x0, AT * inner = x0 := ⟨_, rfl⟩
   obtain ⟨y0, hy0⟩ : ∃ y0, (AT + 1) * inner = y0 := ⟨_, rfl⟩
   have q1 : IntKind.i64.wrap ((o : Int) * (n : Int)) = (X : Int) := by rw [← Int.natCast_mul, hX]; exact IntWalk.i64_in _ (by omega)
   have q2 : IntKind.i64.wrap (((o : Int) + 1) * (n : Int)) = (Y : Int) := by
    rw [show ((o : Int) + 1) * (n : Int) = ((Y : Nat) : Int) by rw [← hY]; simp]; exact IntWalk.i64_in _ (by omega)
   have q3 : IntKind.i64.wrap ((Y : Int) - 1) = (AT : Int) := by rw [show ((Y : Int) - 1) = ((AT : Nat) : Int) by omega]; exact IntWalk.i64_in _ (by omega)
   have HYL := Lib.hid (show y0 ≤ l.length by rw [HM.out, ← hy0, ← hXY]; exact hYm)
   have HX0 := Lib.hid hx0; have HY0 := Lib.hid hy0
   have HCL := Lib.hid (show (l.take y0).drop x0 = cellB t l n inner o N1 by
    have h9 := cell_last t l HLL.out HN.out hlt
    rw [show o * n + n - 1 = AT by omega, hx0, hy0, show n - 1 = N1 by omega] at h9
    exact h9)
   have HLT := Lib.hid hlt; have HNN := Lib.hid hN1; have HXX := Lib.hid hX; have HAT := Lib.hid hAT; have HXE := Lib.hid hXY; have HYM := Lib.hid hYm; have HYB := Lib.hid hYb
   obtain ⟨IW, hIW⟩ : ∃ IW, (inner + 63) / 64 = IW := ⟨_, rfl⟩
   have HIW := Lib.hid hIW; have hom := HOM.out; clear hN1 hX hY hAT hXY hYm hx0 hy0 hIW; have cHA0 := HA.out.2.1; have cHA1 := HA.out.2.2.1; have cHR0 := HR.out.2.1; have cHR1 := HR.out.2.2.1
   go_wp2_with fail
   refine (fopiece_calls _ l AT inner x0 y0 _ HV.out HL.out HIP.out HX0.out HY0.out HYL.out).mono ?_
   rintro e W11 ⟨vz, rfl, hvz, hB⟩
   clear cHA0 cHA1 cHR0 cHR1; replace HB := cb hB HB; replace HV := HV.go hB; replace HA := HA.go hB; replace HR := HR.go hB
   replace HO := Lib.hid (owns_below HO.out hB)
   replace HKW := cb hB HKW; replace HWR := cb hB HWR
   rw [HCL.out] at hvz
   obtain ⟨az, cz, rfl, hcz⟩ := hvz.opened
   rw [cellB_len, HIW.out] at hvz ⊢
   have Hz := Lib.hid hvz; clear hvz hcz; clear hB
   obtain ⟨zb, hzb⟩ : ∃ zb, W11.heap.size = zb := ⟨_, rfl⟩
   have HGZ := Lib.hid (show wo.heap.size ≤ zb by rw [← hzb]; exact HWR.out.size)
   have HZB := Lib.hid hzb
   obtain ⟨W12, hWn, hB, hNB⟩ := ahd2 W11 (.int .i64 inner) (.slice az IW cz) 74
   replace HB := cb hB HB; replace HV := HV.go hB; replace HA := HA.go hB; replace HR := HR.go hB
   replace HO := Lib.hid (owns_below HO.out hB)
   replace HKW := cb hB HKW; replace HWR := cb hB HWR; replace Hz := Hz.go hB; have HZ := Lib.hid hNB; clear hNB hB
   rw [hzb] at HZ
   have cHA0 := HA.out.2.1; have cHA1 := HA.out.2.2.1; have cHR0 := HR.out.2.1; have cHR1 := HR.out.2.2.1; have cHZ0 := HZ.out.2.1; have cHZ1 := HZ.out.2.2.1
   go_wp2_with fail
   clear hWn hzb; clear cHA0 cHA1 cHR0 cHR1 cHZ0 cHZ1
   go_loopw [13] (fun at_ wr => ∃ (a : Nat) (az : Option Addr) (cz : Nat), a ≤ N1 ∧ at_ = .int .i64 ((X + a : Nat) : Int) ∧ IsBits wr (.agg #[.int .i64 inner, .slice az IW cz]) (cellB t l n inner o a) ∧ At2 wr zb (.int .i64 inner) (.slice az IW cz) ∧ Below wo.heap.size wo wr) (fun at_ _ => (intOf at_).toNat - X)
   case atStart => exact ⟨N1, az, cz, Nat.le_refl _, by rw [HAT.out], Hz.out, HZ.out, HWR.out⟩
   case round =>
    obtain ⟨a, az, cz, ha, rfl, hbz, hAz, hB'⟩ := hrel
    clear Hz HZ
    replace HB := Lib.hid (HBr.out.trans (hB'.mono HBr.out.size))
    replace HV := Lib.hid (HVr.out.keep (keep_below hB'))
    replace HA := Lib.hid (HAr.out.below hB')
    replace HR := Lib.hid (HRr.out.below hB')
    replace HO := Lib.hid (owns_below HOr.out hB')
    replace HKW := Lib.hid (HKWr.out.trans (hB'.mono HKWr.out.size))
    replace HWR := Lib.hid hB'
    have Hz := Lib.hid hbz; have HZ := Lib.hid hAz
    clear hbz hAz hB'
    have him := HIM.out; have hyb := HYB.out
    cases a with
    | zero =>
     rw [Nat.add_zero]
     have cHA0 := HA.out.2.1; have cHA1 := HA.out.2.2.1; have cHR0 := HR.out.2.1; have cHR1 := HR.out.2.2.1; have cHZ0 := HZ.out.2.1; have cHZ1 := HZ.out.2.2.1
     go_wp2_with fail
     refine (unpack_slc _ (cellB t l n inner o 0) _ Hz.out (by rw [cellB_len]; exact him)).mono ?_
     rintro e W13 ⟨vu, rfl, hvu, hB⟩
     clear cHA0 cHA1 cHR0 cHR1 cHZ0 cHZ1; replace HB := cb hB HB; replace HV := HV.go hB; replace HA := HA.go hB; replace HR := HR.go hB
     replace HO := Lib.hid (owns_below HO.out hB)
     replace HKW := cb hB HKW; replace HWR := cb hB HWR; replace Hz := Hz.go hB; replace HZ := HZ.go hB
     rw [cellB_len] at hvu
     have Hu := Lib.hid hvu.any
     obtain ⟨au, cu, rfl, _⟩ := hvu.opened
     clear hvu; clear hB
     obtain ⟨F, hF⟩ : ∃ F, outB t l o n inner = F := ⟨_, rfl⟩
     have HF := Lib.hid (show outB t l (o + 1) n inner = F ++ cellB t l n inner o 0 by rw [outB_succ, hF])
     have HFL := Lib.hid (show F.length = o * inner by rw [← hF, outB_len])
     rw [hF] at HO
     have HFM := Lib.hid (show F.length + inner ≤ 1048576 by
      rw [HFL.out]
      have := Nat.mul_le_mul_right inner HLT.out
      have := HDM.out; have := HD.out
      rw [Nat.succ_eq_add_one, Nat.add_mul] at *
      omega)
     have HM2 := Lib.hid (show F.length + inner ≤ maxLen by have := HFM.out; unfold maxLen; omega)
     have HBS := Lib.hid (show bk ≤ W13.heap.size by have := HKW.out.size; have := HBK.out; omega)
     clear hF; have cHA0 := HA.out.2.1; have cHA1 := HA.out.2.2.1; have cHR0 := HR.out.2.1; have cHR1 := HR.out.2.2.1; have cHZ0 := HZ.out.2.1; have cHZ1 := HZ.out.2.2.1
     go_wp2_with (at_builtin; refine wpList_append_any _ rfl _ _ 52 rfl bk 4 i0 (.bool false) 1 Tryz.underlying52 HI0.out.1 HI0.out.2.1 HI0.out.2.2.1 HI0.out.2.2.2 rfl _ F.length (bools F) rfl HO.out au inner cu (bools (cellB t l n inner o 0)) rfl Hu.out.1 (one_bools _) ?c3 ?c4 ?c5 ?_)
     case c3 => exact HM2.out
     case c4 => have := HFM.out; omega
     case c5 => exact HBS.out
     intro v' w3 hown' hgrow
     have HO3 := Lib.hid hown'
     have HK3 := Lib.hid (grown_below HKW.out HO.out (Nat.le_of_eq HBK.out) HKW.out.size hgrow)
     clear hown' hgrow
     have hom := HOM.out
     go_wp2
     go_roundw
     case rel =>
      refine ⟨o + 1, by omega, by go_num, ?_, HK3.out⟩
      have h9 := HO3.out
      rw [HF.out, List.length_append, cellB_len]
      simpa [bools] using h9
     case measure => simp [intOf]; omega
    | succ a =>
     obtain ⟨P, hP⟩ : ∃ P, X + a = P := ⟨_, rfl⟩
     have e1 : (((X + (a + 1) : Nat)) : Int) = (P : Int) + 1 := by omega
     have hXP : (X : Int) < (P : Int) + 1 := by omega
     have hPb : P ≤ 1048576 := by have := HAT.out; have := HXE.out; omega
     have hPm : (P + 1) * inner ≤ m := Nat.le_trans (Nat.mul_le_mul_right _ (by have := HAT.out; have := HXE.out; omega)) HYM.out
     obtain ⟨x1, hx1⟩ : ∃ x1, P * inner = x1 := ⟨_, rfl⟩
     obtain ⟨y1, hy1⟩ : ∃ y1, (P + 1) * inner = y1 := ⟨_, rfl⟩
     have HY1L := Lib.hid (show y1 ≤ l.length by rw [HM.out, ← hy1]; exact hPm)
     have HX1 := Lib.hid hx1; have HY1 := Lib.hid hy1
     obtain ⟨R, hR⟩ : ∃ R, (l.take y1).drop x1 = R := ⟨_, rfl⟩
     have HRR := Lib.hid hR
     have HRL := Lib.hid (show R.length = inner by
      rw [← hR, cut_len l (by rw [← hx1, ← hy1]; exact Nat.mul_le_mul_right _ (Nat.le_succ _)) HY1L.out, ← hx1, ← hy1, Nat.add_mul]; omega)
     have HZW := Lib.hid (show List.zipWith (tab t) R (cellB t l n inner o (a + 1)) = cellB t l n inner o a by
      have h9 := cell_step t l HLL.out (show a + 1 < n by have := HNN.out; omega) HLT.out
      rw [HXX.out, hP, hx1, hy1, hR] at h9
      exact h9)
     have HPE := Lib.hid hP; rw [e1]; clear hP e1 hPm hx1 hy1 hR; have cHA0 := HA.out.2.1; have cHA1 := HA.out.2.2.1; have cHR0 := HR.out.2.1; have cHR1 := HR.out.2.2.1; have cHZ0 := HZ.out.2.1; have cHZ1 := HZ.out.2.2.1
     go_wp2_with fail
     clear cHA0 cHA1 cHR0 cHR1 cHZ0 cHZ1
     obtain ⟨W13, hWD, hB⟩ := drwn wr
     replace HB := cb hB HB; replace HV := HV.go hB; replace HA := HA.go hB; replace HR := HR.go hB
     replace HO := Lib.hid (owns_below HO.out hB)
     replace HKW := cb hB HKW; replace HWR := cb hB HWR; replace Hz := Hz.go hB; replace HZ := HZ.go hB; clear hB
     refine rgn (S := fun w' => w'.cell? ⟨w.heap.size, 0, none⟩ = some (.int .i64 m) ∧ w'.cell? ⟨w.heap.size, 1, none⟩ = some (.slice ao L cap)) hWD ⟨HA.out.2.1, HA.out.2.2.1⟩ (fun hHeld => ?_)
     clear hWD; apply tk 0; apply tk 1; apply tk 2; apply tk 3
     refine wpAnyH_ready (rs := [4, 5]) (by kernel_rfl) (by simp) ?_
     refine AllReadyH.cons (o := _) rfl (fun K hK => ?_) ?_
     ·clear hHeld; go_simp
      refine (fopiece_calls _ l P inner x1 y1 _ HV.out HL.out HIP.out HX1.out HY1.out HY1L.out).mono ?_
      rintro e W14 ⟨vr, rfl, hvr, hB⟩
      replace HB := cb hB HB; replace HV := HV.go hB; replace HA := HA.go hB; replace HR := HR.go hB
      replace HO := Lib.hid (owns_below HO.out hB)
      replace HKW := cb hB HKW; replace HWR := cb hB HWR; replace Hz := Hz.go hB; replace HZ := HZ.go hB
      rw [HRR.out] at hvr
      have Hr := Lib.hid hvr; clear hvr; clear hB
      refine hK.out _ _ ⟨HA.out.2.1, HA.out.2.2.1⟩ (fun hHeld => ?_)
      clear hK K
      apply rdy 5; intro K hK; clear hHeld; have s0 := HZ.out.2.1; have s1 := HZ.out.2.2.1; go_simp; clear s0 s1
      refine hK.out _ _ ⟨HA.out.2.1, HA.out.2.2.1⟩ (fun hHeld => ?_)
      clear hK K
      apply rdy 6; intro K hK; clear hHeld; go_simp
      refine (truth_yes t HT.out _ _ R (cellB t l n inner o (a + 1)) _ Hr.out Hz.out (by rw [HRL.out, cellB_len]) (by rw [HRL.out]; exact HIM.out)).mono ?_
      rintro e W15 ⟨vt, rfl, hvt, hB⟩
      replace HB := cb hB HB; replace HV := HV.go hB; replace HA := HA.go hB; replace HR := HR.go hB
      replace HO := Lib.hid (owns_below HO.out hB)
      replace HKW := cb hB HKW; replace HWR := cb hB HWR; replace Hz := Hz.go hB; replace HZ := HZ.go hB; replace Hr := Hr.go hB
      rw [HZW.out] at hvt
      obtain ⟨at1, ct1, rfl, hct⟩ := hvt.opened
      rw [cellB_len, HIW.out] at hvt ⊢
      have Ht := Lib.hid hvt; clear hvt hct; clear hB
      refine hK.out _ _ ⟨HA.out.2.1, HA.out.2.2.1⟩ (fun hHeld => ?_)
      clear hK K; apply tk 7; apply tk 8; apply tk 9
      apply rdy 10; intro K hK; clear hHeld; have s0 := HZ.out.2.1; have t0 := HZ.out.2.2.2 0; have s1 := HZ.out.2.2.1; have t1 := HZ.out.2.2.2 1; go_simp; clear s0 t0 s1 t1
      obtain ⟨W16, hWn⟩ : ∃ xw9, (W15.setCell ⟨zb, 0, none⟩ (.int .i64 inner)).setCell ⟨zb, 1, none⟩ (.slice at1 IW ct1) = xw9 := ⟨_, rfl⟩
      rw [hWn]
      replace Ht := Lib.hid (show IsBits W16 _ _ by rw [← hWn]; exact Ht.out.put2 HZ.out (fun z e => by simp at e) _ _)
      replace HZ := Lib.hid (show At2 W16 zb (.int .i64 inner) (.slice at1 IW ct1) by rw [← hWn]; exact at2_put HZ.out _ _)
      replace HWR := Lib.hid (show Below wo.heap.size wo W16 by rw [← hWn]; exact below_setc HWR.out HGZ.out _ _)
      replace HA := Lib.hid (HAr.out.below HWR.out)
      clear hWn
      refine hK.out _ _ ⟨HA.out.2.1, HA.out.2.2.1⟩ (fun hHeld => ?_)
      clear hK K
      refine wpAnyH_done (by kernel_rfl) ?_ _
      clear hHeld
      go_wp2
      go_roundw
      case rel => exact ⟨a, at1, ct1, by omega, by rw [HPE.out], Ht.out, HZ.out, HWR.out⟩
      case measure => simp [intOf]; have := HPE.out; omega
     refine AllReadyH.cons (o := _) rfl (fun K hK => ?_) ?_
     ·clear hHeld; have s0 := HZ.out.2.1; have s1 := HZ.out.2.2.1; go_simp; clear s0 s1
      refine hK.out _ _ ⟨HA.out.2.1, HA.out.2.2.1⟩ (fun hHeld => ?_)
      clear hK K
      apply rdy 4; intro K hK; clear hHeld; go_simp
      refine (fopiece_calls _ l P inner x1 y1 _ HV.out HL.out HIP.out HX1.out HY1.out HY1L.out).mono ?_
      rintro e W14 ⟨vr, rfl, hvr, hB⟩
      replace HB := cb hB HB; replace HV := HV.go hB; replace HA := HA.go hB; replace HR := HR.go hB
      replace HO := Lib.hid (owns_below HO.out hB)
      replace HKW := cb hB HKW; replace HWR := cb hB HWR; replace Hz := Hz.go hB; replace HZ := HZ.go hB
      rw [HRR.out] at hvr
      have Hr := Lib.hid hvr; clear hvr; clear hB
      refine hK.out _ _ ⟨HA.out.2.1, HA.out.2.2.1⟩ (fun hHeld => ?_)
      clear hK K
      apply rdy 6; intro K hK; clear hHeld; go_simp
      refine (truth_yes t HT.out _ _ R (cellB t l n inner o (a + 1)) _ Hr.out Hz.out (by rw [HRL.out, cellB_len]) (by rw [HRL.out]; exact HIM.out)).mono ?_
      rintro e W15 ⟨vt, rfl, hvt, hB⟩
      replace HB := cb hB HB; replace HV := HV.go hB; replace HA := HA.go hB; replace HR := HR.go hB
      replace HO := Lib.hid (owns_below HO.out hB)
      replace HKW := cb hB HKW; replace HWR := cb hB HWR; replace Hz := Hz.go hB; replace HZ := HZ.go hB; replace Hr := Hr.go hB
      rw [HZW.out] at hvt
      obtain ⟨at1, ct1, rfl, hct⟩ := hvt.opened
      rw [cellB_len, HIW.out] at hvt ⊢
      have Ht := Lib.hid hvt; clear hvt hct; clear hB
      refine hK.out _ _ ⟨HA.out.2.1, HA.out.2.2.1⟩ (fun hHeld => ?_)
      clear hK K; apply tk 7; apply tk 8; apply tk 9
      apply rdy 10; intro K hK; clear hHeld; have s0 := HZ.out.2.1; have t0 := HZ.out.2.2.2 0; have s1 := HZ.out.2.2.1; have t1 := HZ.out.2.2.2 1; go_simp; clear s0 t0 s1 t1
      obtain ⟨W16, hWn⟩ : ∃ xw9, (W15.setCell ⟨zb, 0, none⟩ (.int .i64 inner)).setCell ⟨zb, 1, none⟩ (.slice at1 IW ct1) = xw9 := ⟨_, rfl⟩
      rw [hWn]
      replace Ht := Lib.hid (show IsBits W16 _ _ by rw [← hWn]; exact Ht.out.put2 HZ.out (fun z e => by simp at e) _ _)
      replace HZ := Lib.hid (show At2 W16 zb (.int .i64 inner) (.slice at1 IW ct1) by rw [← hWn]; exact at2_put HZ.out _ _)
      replace HWR := Lib.hid (show Below wo.heap.size wo W16 by rw [← hWn]; exact below_setc HWR.out HGZ.out _ _)
      replace HA := Lib.hid (HAr.out.below HWR.out)
      clear hWn
      refine hK.out _ _ ⟨HA.out.2.1, HA.out.2.2.1⟩ (fun hHeld => ?_)
      clear hK K
      refine wpAnyH_done (by kernel_rfl) ?_ _
      clear hHeld
      go_wp2
      go_roundw
      case rel => exact ⟨a, at1, ct1, by omega, by rw [HPE.out], Ht.out, HZ.out, HWR.out⟩
      case measure => simp [intOf]; have := HPE.out; omega
     exact AllReadyH.nil
  ·have hoo : o = outer := by omega
   obtain ⟨bs, hbs⟩ : ∃ bs, outB t l outer n inner = bs := ⟨_, rfl⟩
   have HBS := Lib.hid hbs
   have HBL := Lib.hid (show bs.length = D by rw [← hbs, outB_len]; exact HD.out)
   rw [hoo, hbs] at HO
   have HOW := Lib.hid (show Slc wr (fun b => bk ≤ b) _ bs.length (bools bs) from Slc.owned HO.out)
   obtain ⟨ax, cx, rfl, _⟩ := HOW.out.opened
   have HBM := Lib.hid (show bs.length ≤ 1048576 by rw [HBL.out]; exact HDM.out)
   have HWS := Lib.hid HKW.out.size
   have HKS := Lib.hid (show w.heap.size + 2 ≤ bk by have := HR1.out.1; have := HBK.out; omega)
   clear hoo hbs; have cHA0 := HA.out.2.1; have cHA1 := HA.out.2.2.1; have cHR0 := HR.out.2.1; have cHR1 := HR.out.2.2.1; have zHR0 := HR.out.2.2.2 0; have zHR1 := HR.out.2.2.2 1
   go_wp2_with fail
   refine (pack_fresh _ bs _ HOW.out.1.sl HBM.out).mono ?_
   rintro e W11 ⟨v4, rfl, hv4, hB⟩
   clear cHA0 cHA1 cHR0 cHR1 zHR0 zHR1; replace HB := cb hB HB; replace HV := HV.go hB; replace HA := HA.go hB; replace HR := HR.go hB; replace HKW := cb hB HKW; replace HWR := cb hB HWR; replace HOW := HOW.go hB
   have HV4 := Lib.hid (show IsBitsX W11 (fun b => w.heap.size + 2 ≤ b) v4 bs from hv4.keep (Kept.refl _ _) (fun b _ (h : wr.heap.size + 1 ≤ b) => by have := HWS.out; have := HKS.out; have := HBK.out; omega))
   clear hv4; clear hB; have cHA0 := HA.out.2.1; have cHA1 := HA.out.2.2.1; have cHR0 := HR.out.2.1; have cHR1 := HR.out.2.2.1; have zHR0 := HR.out.2.2.2 0; have zHR1 := HR.out.2.2.2 1
   obtain ⟨ao4, cap4, rfl, _⟩ := HV4.out.bits.opened
   go_wp2_with fail
   have hq := at2_put HR.out (.int .i64 bs.length) (.slice ao4 ((bs.length + 63) / 64) cap4)
   have q0 := hq.2.1
   have q1 := hq.2.2.1
   have HB5 := Lib.hid (below_setc HB.out (show w.heap.size ≤ w.heap.size + 1 by omega) (.int .i64 bs.length) (.slice ao4 ((bs.length + 63) / 64) cap4))
   refine bodyPost_ret (v := .agg #[.int .i64 bs.length, .slice ao4 ((bs.length + 63) / 64) cap4]) (by simp [results, Tryz.results105, go_sem, q0, q1]) rfl ⟨_, rfl, ?_, HB5.out⟩
   rw [HBS.out]
   exact HV4.out.keep ((Kept.setCell _ _ _ (by simp)).trans (Kept.setCell _ _ _ (by simp))) (fun _ _ h => h)
end Go.Proofs.YtghojndkcndjbaaGreatDoor

/- Layer 13, walked: ofFlags of package fold. -/
namespace Go.Proofs.YtghojndkcndjbaaGreatDoor
set_option maxRecDepth 100000
open Go.RowKit Fl
set_option linter.unusedVariables false

theorem At1.put1F {w : World} {b : Nat} {u : Value} (h : At1 w b u) (x : Value) : At1 (w.setCell ⟨b, 0, none⟩ x) b x :=
 ⟨by simpa using h.1, World.cell?_setCell_same _ _ _ h.2.1, fun o => by simpa using h.2.2 o⟩
/-- What ofFlags tells: the answer, or nothing. -/
def TriedF (f : Int) (P : List (List Nat)) (w : World) (e : Ending) (w' : World) : Prop :=
 ∃ u r, e = .returned (.tuple #[.agg #[u], .bool r]) ∧ ((r = true ∧ errG (rowN f) P = 0 ∧ IsV w' (fun b => w.heap.size ≤ b) u (sqL (outG (rowN f) P))) ∨ (r = false ∧ u = .nilIface)) ∧ Below w.heap.size w w'
set_option maxHeartbeats 8000000 in
theorem foflags_calls (f : Int) (v : Value) (l : List Bool) (outer n inner : Nat) (w : World) (hv : IsBits w v l) (hl : l.length ≤ 1048576) (hll : l.length = outer * n * inner) (hn : 0 < n) (hno : n ≤ 1048576) (him : inner ≤ 1048576) (hom : outer ≤ 1048576) (hoi : outer * inner ≤ 1048576) (hT : TabAt w) :
  Calls Tryz.prog 57 #[.int .i64 f, v, .int .i64 (outer : Int), .int .i64 (n : Int), .int .i64 (inner : Int)] w (TriedF f (rowsL (l.map flagW) outer n inner) w) := by
 have HL := Lib.hid hl; have HLL := Lib.hid hll; have HN := Lib.hid hn; have HNO := Lib.hid hno; have HIM := Lib.hid him; have HOM := Lib.hid hom; have HOI := Lib.hid hoi
 obtain ⟨P, hP⟩ : ∃ P, rowsL (l.map flagW) outer n inner = P := ⟨_, rfl⟩
 have HP := Lib.hid hP; rw [hP]
 obtain ⟨m, hm⟩ : ∃ m, l.length = m := ⟨_, rfl⟩
 obtain ⟨ao, cap, rfl, hcx⟩ := hv.opened
 have HV := Lib.hid hv
 rw [hm] at HV ⊢
 have HM := Lib.hid hm
 obtain ⟨L, hL⟩ : ∃ L, (m + 63) / 64 = L := ⟨_, rfl⟩
 rw [hL] at HV ⊢
 obtain ⟨W1, hW1⟩ : ∃ W1, W1 = (w.alloc (.cells #[.int .i64 m, .slice ao L cap] 74)).alloc (.cells #[.nilIface] 35) := ⟨_, rfl⟩
 have HA := Lib.hid (show At2 W1 w.heap.size (.int .i64 m) (.slice ao L cap) by rw [hW1]; exact (At2.new _ _ _ _).alloc _)
 have HR := Lib.hid (show At1 W1 (w.heap.size + 1) .nilIface by
  rw [hW1]; have := At1.new (w.alloc (.cells #[.int .i64 m, .slice ao L cap] 74)) .nilIface 35; simpa using this)
 have HB := Lib.hid (show Below w.heap.size w W1 by rw [hW1]; exact ((Below.refl _ _).alloc (Nat.le_refl _) _).alloc (by simp) _)
 have HWS := Lib.hid (show W1.heap.size = w.heap.size + 2 by rw [hW1]; simp)
 have HW1 := Lib.hid (Below.refl W1.heap.size W1)
 replace HV := Lib.hid (HV.out.keep (keep_below HB.out))
 have HTB := Lib.hid (show TabAt W1 from fun j hj => keep_below HB.out _ _ (hT j hj))
 have hfold := hW1.symm
 clear hcx hL hv hl hll hn hno him hom hoi hT hW1 hm hP; have cHA0 := HA.out.2.1; have cHA1 := HA.out.2.2.1; have cHR0 := HR.out.2.1; have zHR0 := HR.out.2.2 0
 go_enter Tryz.func57, Tryz.ntmps57
 go_wp2_with fail
 clear hfold
 refine (fotable_calls f _).mono ?_
 rintro e W11 ⟨t, c, rfl, hc, hB⟩
 clear cHA0 cHA1 cHR0 zHR0; replace HB := cb hB HB; replace HW1 := cb hB HW1; replace HTB := HTB.go hB; replace HV := HV.go hB; replace HA := HA.go hB; replace HR := HR.go hB; have HC := Lib.hid hc; clear hc; clear hB; have hnm := HNO.out; have him := HIM.out
 cases c
 ·by_cases h64 : 64 ≤ inner
  ·have hb1 : ((inner : Int) == 1) = false := by rw [beq_eq_false_iff_ne]; omega
   by_cases hf1 : f = 1
   ·have hb3 : (f == 1) = true := by simp [hf1]
    clear hf1; have cHA0 := HA.out.2.1; have cHA1 := HA.out.2.2.1; have cHR0 := HR.out.2.1; have zHR0 := HR.out.2.2 0
    go_wp2_with fail
    all_goals refine bodyPost_ret (v := .tuple #[.agg #[.nilIface], .bool false]) (by simp [results, Tryz.results57, go_sem, cHR0]) rfl ⟨.nilIface, false, rfl, .inr ⟨rfl, rfl⟩, HB.out.setCell (by show w.heap.size ≤ w.heap.size + 1; omega) _⟩
   have hb3 : (f == 1) = false := by simp [hf1]
   by_cases hf2 : f = 2
   ·have hb4 : (f == 2) = true := by simp [hf2]
    clear hf1 hf2; have cHA0 := HA.out.2.1; have cHA1 := HA.out.2.2.1; have cHR0 := HR.out.2.1; have zHR0 := HR.out.2.2 0
    go_wp2_with fail
    all_goals refine bodyPost_ret (v := .tuple #[.agg #[.nilIface], .bool false]) (by simp [results, Tryz.results57, go_sem, cHR0]) rfl ⟨.nilIface, false, rfl, .inr ⟨rfl, rfl⟩, HB.out.setCell (by show w.heap.size ≤ w.heap.size + 1; omega) _⟩
   have hb4 : (f == 2) = false := by simp [hf2]
   clear hf1 hf2; have cHA0 := HA.out.2.1; have cHA1 := HA.out.2.2.1; have cHR0 := HR.out.2.1; have zHR0 := HR.out.2.2 0
   go_wp2_with fail
   all_goals refine bodyPost_ret (v := .tuple #[.agg #[.nilIface], .bool false]) (by simp [results, Tryz.results57, go_sem, cHR0]) rfl ⟨.nilIface, false, rfl, .inr ⟨rfl, rfl⟩, HB.out.setCell (by show w.heap.size ≤ w.heap.size + 1; omega) _⟩
  by_cases h1 : inner = 1
  ·by_cases hn64 : 64 ≤ n
   ·by_cases hf1 : f = 1
    ·have hb3 : (f == 1) = true := by simp [hf1]
     have HRC := Lib.hid (rows_count (f := f) (m := List.replicate n true) l outer n HN.out HNO.out (by exact .inl ⟨hf1, rfl⟩))
     rw [show rowsL (l.map flagW) outer n 1 = P by rw [← HP.out, h1]] at HRC
     have HL1 := Lib.hid (show l.length = outer * n by rw [HLL.out, h1, Nat.mul_one])
     have hb1 : ((inner : Int) == 1) = true := by rw [h1]; rfl
     have HMK := Lib.hid (show min (max (n : Int) 0) 1048576 = (n : Int) by have := HNO.out; omega)
     clear h1 hf1 ; have cHA0 := HA.out.2.1; have cHA1 := HA.out.2.2.1; have cHR0 := HR.out.2.1; have zHR0 := HR.out.2.2 0
     go_wp2_with fail
     clear cHA0 cHA1 cHR0 zHR0
     obtain ⟨W12, hWD, hB⟩ := drwn W11
     replace HB := cb hB HB; replace HW1 := cb hB HW1; replace HTB := HTB.go hB; replace HV := HV.go hB; replace HA := HA.go hB; replace HR := HR.go hB; clear hB
     refine rgn (S := fun w' => w'.cell? ⟨w.heap.size, 0, none⟩ = some (.int .i64 m) ∧ w'.cell? ⟨w.heap.size, 1, none⟩ = some (.slice ao L cap)) hWD ⟨HA.out.2.1, HA.out.2.2.1⟩ (fun hHeld => ?_)
     clear hWD; apply tk 0; apply tk 1; apply tk 2
     apply rdy 3; intro K hK; clear hHeld; go_simp
     refine (make_calls _ true n HMK.out _).mono ?_
     rintro e W13 ⟨vm, rfl, hvm, hB⟩
     replace HB := cb hB HB; replace HW1 := cb hB HW1; replace HTB := HTB.go hB; replace HV := HV.go hB; replace HA := HA.go hB; replace HR := HR.go hB; have HVM := Lib.hid hvm; clear hvm; clear hB
     refine hK.out _ _ ⟨HA.out.2.1, HA.out.2.2.1⟩ (fun hHeld => ?_)
     clear hK K
     apply rdy 4; intro K hK; clear hHeld; have hO := HW1.out.size; go_simp
     refine (focounted_calls _ _ l (List.replicate n true) outer n _ HV.out HVM.out HL.out HL1.out List.length_replicate HN.out HNO.out HRC.out.2.2 HTB.out).mono ?_
     rintro e W14 ⟨uq, rfl, huq, hB⟩
     replace HB := cb hB HB; replace HW1 := cb hB HW1; replace HTB := HTB.go hB; replace HV := HV.go hB; replace HA := HA.go hB; replace HR := HR.go hB; replace HVM := HVM.go hB
     rw [← HRC.out.2.1] at huq
     have HQ := Lib.hid (show IsV W14 (fun b => w.heap.size + 2 ≤ b) uq _ from huq.wide (fun b _ (h : W13.heap.size + 3 ≤ b) => by have := HWS.out; omega))
     have hsq := huq.store; clear huq hO; clear hB
     refine hK.out _ _ ⟨HA.out.2.1, HA.out.2.2.1⟩ (fun hHeld => ?_)
     clear hK K
     apply rdy 5; intro K hK; clear hHeld; have s0 := HR.out.2.1; have t0 := HR.out.2.2 0; go_simp; clear s0 t0
     obtain ⟨W15, hWn⟩ : ∃ xw9, W14.setCell ⟨w.heap.size + 1, 0, none⟩ uq = xw9 := ⟨_, rfl⟩
     rw [hWn]
     replace HQ := Lib.hid (show IsV W15 (fun b => w.heap.size + 2 ≤ b) uq (sqL (outG (rowN f) P)) by rw [← hWn]; exact HQ.out.keep (Kept.setCell _ _ _ (by simp)) (fun _ _ h => h))
     replace HB := Lib.hid (show Below w.heap.size w W15 by rw [← hWn]; exact HB.out.setCell (by show w.heap.size ≤ w.heap.size + 1; omega) _)
     replace HR := Lib.hid (show At1 W15 (w.heap.size + 1) uq by rw [← hWn]; exact At1.put1F HR.out _)
     replace HA := Lib.hid (show At2 W15 w.heap.size _ _ by rw [← hWn]; exact HA.out.grown (grown_setCell _ ⟨w.heap.size + 1, 0, none⟩ _) (by simp))
     clear hWn
     refine hK.out _ _ ⟨HA.out.2.1, HA.out.2.2.1⟩ (fun hHeld => ?_)
     clear hK K; apply tk 6
     refine wpAnyH_done (by kernel_rfl) ?_ _
     clear hHeld; have r0 := HR.out.2.1
     go_wp2
     refine bodyPost_ret (v := .tuple #[.agg #[uq], .bool true]) (by simp [results, Tryz.results57, go_sem, r0]) rfl ⟨uq, true, rfl, .inl ⟨rfl, HRC.out.1, ?_⟩, HB.out⟩
     exact HQ.out.wide (fun b _ (h : w.heap.size + 2 ≤ b) => by omega)
    have hb3 : (f == 1) = false := by simp [hf1]
    by_cases hf2 : f = 2
    ·have hb4 : (f == 2) = true := by simp [hf2]
     have HRC := Lib.hid (rows_count (f := f) (m := altM true n) l outer n HN.out HNO.out (by exact .inr ⟨hf2, rfl⟩))
     rw [show rowsL (l.map flagW) outer n 1 = P by rw [← HP.out, h1]] at HRC
     have HL1 := Lib.hid (show l.length = outer * n by rw [HLL.out, h1, Nat.mul_one])
     have hb1 : ((inner : Int) == 1) = true := by rw [h1]; rfl
     have HMK := Lib.hid (show min (max (n : Int) 0) 1048576 = (n : Int) by have := HNO.out; omega)
     clear h1 hf1 hf2; have cHA0 := HA.out.2.1; have cHA1 := HA.out.2.2.1; have cHR0 := HR.out.2.1; have zHR0 := HR.out.2.2 0
     go_wp2_with fail
     clear cHA0 cHA1 cHR0 zHR0
     obtain ⟨W12, hWD, hB⟩ := drwn W11
     replace HB := cb hB HB; replace HW1 := cb hB HW1; replace HTB := HTB.go hB; replace HV := HV.go hB; replace HA := HA.go hB; replace HR := HR.go hB; clear hB
     refine rgn (S := fun w' => w'.cell? ⟨w.heap.size, 0, none⟩ = some (.int .i64 m) ∧ w'.cell? ⟨w.heap.size, 1, none⟩ = some (.slice ao L cap)) hWD ⟨HA.out.2.1, HA.out.2.2.1⟩ (fun hHeld => ?_)
     clear hWD; apply tk 0; apply tk 1; apply tk 2
     apply rdy 3; intro K hK; clear hHeld; go_simp
     refine (make_calls _ true n HMK.out _).mono ?_
     rintro e W13 ⟨vm, rfl, hvm, hB⟩
     replace HB := cb hB HB; replace HW1 := cb hB HW1; replace HTB := HTB.go hB; replace HV := HV.go hB; replace HA := HA.go hB; replace HR := HR.go hB; have HVM := Lib.hid hvm; clear hvm; clear hB
     refine hK.out _ _ ⟨HA.out.2.1, HA.out.2.2.1⟩ (fun hHeld => ?_)
     clear hK K
     apply rdy 4; intro K hK; clear hHeld; go_simp
     refine (parity_calls _ (List.replicate n true) _ HVM.out (by rw [List.length_replicate]; exact HNO.out)).mono ?_
     rintro e W14 ⟨vp, rfl, hvp, hB⟩
     replace HB := cb hB HB; replace HW1 := cb hB HW1; replace HTB := HTB.go hB; replace HV := HV.go hB; replace HA := HA.go hB; replace HR := HR.go hB; replace HVM := HVM.go hB
     rw [parity_alt] at hvp
     have HVP := Lib.hid hvp; clear hvp; clear hB
     refine hK.out _ _ ⟨HA.out.2.1, HA.out.2.2.1⟩ (fun hHeld => ?_)
     clear hK K
     apply rdy 5; intro K hK; clear hHeld; have hO := HW1.out.size; go_simp
     refine (focounted_calls _ _ l (altM true n) outer n _ HV.out HVP.out HL.out HL1.out (by simp [altM]) HN.out HNO.out HRC.out.2.2 HTB.out).mono ?_
     rintro e W15 ⟨uq, rfl, huq, hB⟩
     replace HB := cb hB HB; replace HW1 := cb hB HW1; replace HTB := HTB.go hB; replace HV := HV.go hB; replace HA := HA.go hB; replace HR := HR.go hB; replace HVM := HVM.go hB; replace HVP := HVP.go hB
     rw [← HRC.out.2.1] at huq
     have HQ := Lib.hid (show IsV W15 (fun b => w.heap.size + 2 ≤ b) uq _ from huq.wide (fun b _ (h : W14.heap.size + 3 ≤ b) => by have := HWS.out; omega))
     have hsq := huq.store; clear huq hO; clear hB
     refine hK.out _ _ ⟨HA.out.2.1, HA.out.2.2.1⟩ (fun hHeld => ?_)
     clear hK K
     apply rdy 6; intro K hK; clear hHeld; have s0 := HR.out.2.1; have t0 := HR.out.2.2 0; go_simp; clear s0 t0
     obtain ⟨W16, hWn⟩ : ∃ xw9, W15.setCell ⟨w.heap.size + 1, 0, none⟩ uq = xw9 := ⟨_, rfl⟩
     rw [hWn]
     replace HQ := Lib.hid (show IsV W16 (fun b => w.heap.size + 2 ≤ b) uq (sqL (outG (rowN f) P)) by rw [← hWn]; exact HQ.out.keep (Kept.setCell _ _ _ (by simp)) (fun _ _ h => h))
     replace HB := Lib.hid (show Below w.heap.size w W16 by rw [← hWn]; exact HB.out.setCell (by show w.heap.size ≤ w.heap.size + 1; omega) _)
     replace HR := Lib.hid (show At1 W16 (w.heap.size + 1) uq by rw [← hWn]; exact At1.put1F HR.out _)
     replace HA := Lib.hid (show At2 W16 w.heap.size _ _ by rw [← hWn]; exact HA.out.grown (grown_setCell _ ⟨w.heap.size + 1, 0, none⟩ _) (by simp))
     clear hWn
     refine hK.out _ _ ⟨HA.out.2.1, HA.out.2.2.1⟩ (fun hHeld => ?_)
     clear hK K; apply tk 7
     refine wpAnyH_done (by kernel_rfl) ?_ _
     clear hHeld; have r0 := HR.out.2.1
     go_wp2
     refine bodyPost_ret (v := .tuple #[.agg #[uq], .bool true]) (by simp [results, Tryz.results57, go_sem, r0]) rfl ⟨uq, true, rfl, .inl ⟨rfl, HRC.out.1, ?_⟩, HB.out⟩
     exact HQ.out.wide (fun b _ (h : w.heap.size + 2 ≤ b) => by omega)
    have hb4 : (f == 2) = false := by simp [hf2]
    have hb1 : ((inner : Int) == 1) = true := by rw [h1]; rfl
    clear h1; clear hf1 hf2; have cHA0 := HA.out.2.1; have cHA1 := HA.out.2.2.1; have cHR0 := HR.out.2.1; have zHR0 := HR.out.2.2 0
    go_wp2_with fail
    all_goals refine bodyPost_ret (v := .tuple #[.agg #[.nilIface], .bool false]) (by simp [results, Tryz.results57, go_sem, cHR0]) rfl ⟨.nilIface, false, rfl, .inr ⟨rfl, rfl⟩, HB.out.setCell (by show w.heap.size ≤ w.heap.size + 1; omega) _⟩
   have hb1 : ((inner : Int) == 1) = true := by rw [h1]; rfl
   clear h1
   by_cases hf1 : f = 1
   ·have hb3 : (f == 1) = true := by simp [hf1]
    clear hf1; have cHA0 := HA.out.2.1; have cHA1 := HA.out.2.2.1; have cHR0 := HR.out.2.1; have zHR0 := HR.out.2.2 0
    go_wp2_with fail
    all_goals refine bodyPost_ret (v := .tuple #[.agg #[.nilIface], .bool false]) (by simp [results, Tryz.results57, go_sem, cHR0]) rfl ⟨.nilIface, false, rfl, .inr ⟨rfl, rfl⟩, HB.out.setCell (by show w.heap.size ≤ w.heap.size + 1; omega) _⟩
   have hb3 : (f == 1) = false := by simp [hf1]
   by_cases hf2 : f = 2
   ·have hb4 : (f == 2) = true := by simp [hf2]
    clear hf1 hf2; have cHA0 := HA.out.2.1; have cHA1 := HA.out.2.2.1; have cHR0 := HR.out.2.1; have zHR0 := HR.out.2.2 0
    go_wp2_with fail
    all_goals refine bodyPost_ret (v := .tuple #[.agg #[.nilIface], .bool false]) (by simp [results, Tryz.results57, go_sem, cHR0]) rfl ⟨.nilIface, false, rfl, .inr ⟨rfl, rfl⟩, HB.out.setCell (by show w.heap.size ≤ w.heap.size + 1; omega) _⟩
   have hb4 : (f == 2) = false := by simp [hf2]
   clear hf1 hf2; have cHA0 := HA.out.2.1; have cHA1 := HA.out.2.2.1; have cHR0 := HR.out.2.1; have zHR0 := HR.out.2.2 0
   go_wp2_with fail
   all_goals refine bodyPost_ret (v := .tuple #[.agg #[.nilIface], .bool false]) (by simp [results, Tryz.results57, go_sem, cHR0]) rfl ⟨.nilIface, false, rfl, .inr ⟨rfl, rfl⟩, HB.out.setCell (by show w.heap.size ≤ w.heap.size + 1; omega) _⟩
  have hb1 : ((inner : Int) == 1) = false := by rw [beq_eq_false_iff_ne]; omega
  clear h1
  by_cases hf1 : f = 1
  ·have hb3 : (f == 1) = true := by simp [hf1]
   clear hf1; have cHA0 := HA.out.2.1; have cHA1 := HA.out.2.2.1; have cHR0 := HR.out.2.1; have zHR0 := HR.out.2.2 0
   go_wp2_with fail
   all_goals refine bodyPost_ret (v := .tuple #[.agg #[.nilIface], .bool false]) (by simp [results, Tryz.results57, go_sem, cHR0]) rfl ⟨.nilIface, false, rfl, .inr ⟨rfl, rfl⟩, HB.out.setCell (by show w.heap.size ≤ w.heap.size + 1; omega) _⟩
  have hb3 : (f == 1) = false := by simp [hf1]
  by_cases hf2 : f = 2
  ·have hb4 : (f == 2) = true := by simp [hf2]
   clear hf1 hf2; have cHA0 := HA.out.2.1; have cHA1 := HA.out.2.2.1; have cHR0 := HR.out.2.1; have zHR0 := HR.out.2.2 0
   go_wp2_with fail
   all_goals refine bodyPost_ret (v := .tuple #[.agg #[.nilIface], .bool false]) (by simp [results, Tryz.results57, go_sem, cHR0]) rfl ⟨.nilIface, false, rfl, .inr ⟨rfl, rfl⟩, HB.out.setCell (by show w.heap.size ≤ w.heap.size + 1; omega) _⟩
  have hb4 : (f == 2) = false := by simp [hf2]
  clear hf1 hf2; have cHA0 := HA.out.2.1; have cHA1 := HA.out.2.2.1; have cHR0 := HR.out.2.1; have zHR0 := HR.out.2.2 0
  go_wp2_with fail
  all_goals refine bodyPost_ret (v := .tuple #[.agg #[.nilIface], .bool false]) (by simp [results, Tryz.results57, go_sem, cHR0]) rfl ⟨.nilIface, false, rfl, .inr ⟨rfl, rfl⟩, HB.out.setCell (by show w.heap.size ≤ w.heap.size + 1; omega) _⟩
 ·by_cases h64 : 64 ≤ inner
  ·have hb1 : ((inner : Int) == 1) = false := by rw [beq_eq_false_iff_ne]; omega
   have HCL := Lib.hid (HC.out rfl)
   have HRF := Lib.hid (rows_flags HCL.out.2 l outer n inner HN.out)
   have HE0 := Lib.hid HRF.out.1; have HZ0 := Lib.hid HRF.out.2
   rw [HP.out] at HE0 HZ0
   obtain ⟨bs, hbs⟩ : ∃ bs, outB t l outer n inner = bs := ⟨_, rfl⟩
   have HBS := Lib.hid hbs
   have HBM := Lib.hid (show bs.length ≤ 1048576 by rw [← hbs, outB_len]; exact HOI.out)
   rw [hbs] at HZ0
   have hip : 0 < inner := by omega
   have HIP := Lib.hid hip; clear hbs hip; have cHA0 := HA.out.2.1; have cHA1 := HA.out.2.2.1; have cHR0 := HR.out.2.1; have zHR0 := HR.out.2.2 0
   go_wp2_with fail
   have hO := HW1.out.size
   refine (focells_calls t _ l outer n inner _ HV.out HCL.out.1 HL.out HLL.out HN.out HNO.out HIP.out HIM.out HOM.out HOI.out).mono ?_
   rintro e W12 ⟨vx, rfl, hvx, hB⟩
   clear cHA0 cHA1 cHR0 zHR0; replace HB := cb hB HB; replace HW1 := cb hB HW1; replace HTB := HTB.go hB; replace HV := HV.go hB; replace HA := HA.go hB; replace HR := HR.go hB
   rw [HBS.out] at hvx
   have HX := Lib.hid (show IsBitsX W12 (fun b => w.heap.size + 2 ≤ b) vx bs from hvx.keep (Kept.refl _ _) (fun b _ (h : W11.heap.size + 2 ≤ b) => by have := HWS.out; omega))
   obtain ⟨ax, cx, rfl, _⟩ := HX.out.bits.opened
   clear hvx hO; clear hB; have cHA0 := HA.out.2.1; have cHA1 := HA.out.2.2.1; have cHR0 := HR.out.2.1; have zHR0 := HR.out.2.2 0
   go_wp2_with fail
   refine (vbits_ok _ bs _ HX.out HBM.out).mono ?_
   rintro e W13 ⟨uq, rfl, huq, hB⟩
   clear cHA0 cHA1 cHR0 zHR0; replace HB := cb hB HB; replace HW1 := cb hB HW1; replace HTB := HTB.go hB; replace HV := HV.go hB; replace HA := HA.go hB; replace HR := HR.go hB; replace HX := HX.go hB; have HQ := Lib.hid huq; have hsq := huq.store; clear huq; clear hB; have cHA0 := HA.out.2.1; have cHA1 := HA.out.2.2.1; have cHR0 := HR.out.2.1; have zHR0 := HR.out.2.2 0
   go_wp2_with fail
   refine bodyPost_ret (v := .tuple #[.agg #[uq], .bool true]) (by simp [results, Tryz.results57, go_sem, cHR0]) rfl ⟨uq, true, rfl, .inl ⟨rfl, HE0.out, ?_⟩, HB.out.setCell (by show w.heap.size ≤ w.heap.size + 1; omega) _⟩
   rw [HZ0.out, ← bits_sq HBM.out]
   exact HQ.out.keep (Kept.setCell _ _ _ (by simp)) (fun b _ (h : w.heap.size + 2 ≤ b) => by omega)
  by_cases h1 : inner = 1
  ·by_cases hn64 : 64 ≤ n
   ·have HCL := Lib.hid (HC.out rfl)
    have HRF := Lib.hid (rows_flags HCL.out.2 l outer n inner HN.out)
    have HE0 := Lib.hid HRF.out.1; have HZ0 := Lib.hid HRF.out.2
    rw [HP.out] at HE0 HZ0
    obtain ⟨bs, hbs⟩ : ∃ bs, outB t l outer n inner = bs := ⟨_, rfl⟩
    have HBS := Lib.hid (show outB t l outer n 1 = bs by rw [← hbs, h1])
    have HBM := Lib.hid (show bs.length ≤ 1048576 by rw [← hbs, outB_len]; exact HOI.out)
    have HL1 := Lib.hid (show l.length = outer * n by rw [HLL.out, h1, Nat.mul_one])
    rw [hbs] at HZ0
    have hb1 : ((inner : Int) == 1) = true := by rw [h1]; rfl
    clear hbs h1; have cHA0 := HA.out.2.1; have cHA1 := HA.out.2.2.1; have cHR0 := HR.out.2.1; have zHR0 := HR.out.2.2 0
    go_wp2_with fail
    have hO := HW1.out.size
    refine (forows_calls t _ l outer n _ HV.out HCL.out.1 HL.out HL1.out HN.out HNO.out HTB.out).mono ?_
    rintro e W12 ⟨vx, rfl, hvx, hB⟩
    clear cHA0 cHA1 cHR0 zHR0; replace HB := cb hB HB; replace HW1 := cb hB HW1; replace HTB := HTB.go hB; replace HV := HV.go hB; replace HA := HA.go hB; replace HR := HR.go hB
    rw [HBS.out] at hvx
    have HX := Lib.hid (show IsBitsX W12 (fun b => w.heap.size + 2 ≤ b) vx bs from hvx.keep (Kept.refl _ _) (fun b _ (h : W11.heap.size + 2 ≤ b) => by have := HWS.out; omega))
    obtain ⟨ax, cx, rfl, _⟩ := HX.out.bits.opened
    clear hvx hO; clear hB; have cHA0 := HA.out.2.1; have cHA1 := HA.out.2.2.1; have cHR0 := HR.out.2.1; have zHR0 := HR.out.2.2 0
    go_wp2_with fail
    refine (vbits_ok _ bs _ HX.out HBM.out).mono ?_
    rintro e W13 ⟨uq, rfl, huq, hB⟩
    clear cHA0 cHA1 cHR0 zHR0; replace HB := cb hB HB; replace HW1 := cb hB HW1; replace HTB := HTB.go hB; replace HV := HV.go hB; replace HA := HA.go hB; replace HR := HR.go hB; replace HX := HX.go hB; have HQ := Lib.hid huq; have hsq := huq.store; clear huq; clear hB; have cHA0 := HA.out.2.1; have cHA1 := HA.out.2.2.1; have cHR0 := HR.out.2.1; have zHR0 := HR.out.2.2 0
    go_wp2_with fail
    refine bodyPost_ret (v := .tuple #[.agg #[uq], .bool true]) (by simp [results, Tryz.results57, go_sem, cHR0]) rfl ⟨uq, true, rfl, .inl ⟨rfl, HE0.out, ?_⟩, HB.out.setCell (by show w.heap.size ≤ w.heap.size + 1; omega) _⟩
    rw [HZ0.out, ← bits_sq HBM.out]
    exact HQ.out.keep (Kept.setCell _ _ _ (by simp)) (fun b _ (h : w.heap.size + 2 ≤ b) => by omega)
   have hb1 : ((inner : Int) == 1) = true := by rw [h1]; rfl
   clear h1
   by_cases hf1 : f = 1
   ·have hb3 : (f == 1) = true := by simp [hf1]
    clear hf1; have cHA0 := HA.out.2.1; have cHA1 := HA.out.2.2.1; have cHR0 := HR.out.2.1; have zHR0 := HR.out.2.2 0
    go_wp2_with fail
    all_goals refine bodyPost_ret (v := .tuple #[.agg #[.nilIface], .bool false]) (by simp [results, Tryz.results57, go_sem, cHR0]) rfl ⟨.nilIface, false, rfl, .inr ⟨rfl, rfl⟩, HB.out.setCell (by show w.heap.size ≤ w.heap.size + 1; omega) _⟩
   have hb3 : (f == 1) = false := by simp [hf1]
   by_cases hf2 : f = 2
   ·have hb4 : (f == 2) = true := by simp [hf2]
    clear hf1 hf2; have cHA0 := HA.out.2.1; have cHA1 := HA.out.2.2.1; have cHR0 := HR.out.2.1; have zHR0 := HR.out.2.2 0
    go_wp2_with fail
    all_goals refine bodyPost_ret (v := .tuple #[.agg #[.nilIface], .bool false]) (by simp [results, Tryz.results57, go_sem, cHR0]) rfl ⟨.nilIface, false, rfl, .inr ⟨rfl, rfl⟩, HB.out.setCell (by show w.heap.size ≤ w.heap.size + 1; omega) _⟩
   have hb4 : (f == 2) = false := by simp [hf2]
   clear hf1 hf2; have cHA0 := HA.out.2.1; have cHA1 := HA.out.2.2.1; have cHR0 := HR.out.2.1; have zHR0 := HR.out.2.2 0
   go_wp2_with fail
   all_goals refine bodyPost_ret (v := .tuple #[.agg #[.nilIface], .bool false]) (by simp [results, Tryz.results57, go_sem, cHR0]) rfl ⟨.nilIface, false, rfl, .inr ⟨rfl, rfl⟩, HB.out.setCell (by show w.heap.size ≤ w.heap.size + 1; omega) _⟩
  have hb1 : ((inner : Int) == 1) = false := by rw [beq_eq_false_iff_ne]; omega
  clear h1
  by_cases hf1 : f = 1
  ·have hb3 : (f == 1) = true := by simp [hf1]
   clear hf1; have cHA0 := HA.out.2.1; have cHA1 := HA.out.2.2.1; have cHR0 := HR.out.2.1; have zHR0 := HR.out.2.2 0
   go_wp2_with fail
   all_goals refine bodyPost_ret (v := .tuple #[.agg #[.nilIface], .bool false]) (by simp [results, Tryz.results57, go_sem, cHR0]) rfl ⟨.nilIface, false, rfl, .inr ⟨rfl, rfl⟩, HB.out.setCell (by show w.heap.size ≤ w.heap.size + 1; omega) _⟩
  have hb3 : (f == 1) = false := by simp [hf1]
  by_cases hf2 : f = 2
  ·have hb4 : (f == 2) = true := by simp [hf2]
   clear hf1 hf2; have cHA0 := HA.out.2.1; have cHA1 := HA.out.2.2.1; have cHR0 := HR.out.2.1; have zHR0 := HR.out.2.2 0
   go_wp2_with fail
   all_goals refine bodyPost_ret (v := .tuple #[.agg #[.nilIface], .bool false]) (by simp [results, Tryz.results57, go_sem, cHR0]) rfl ⟨.nilIface, false, rfl, .inr ⟨rfl, rfl⟩, HB.out.setCell (by show w.heap.size ≤ w.heap.size + 1; omega) _⟩
  have hb4 : (f == 2) = false := by simp [hf2]
  clear hf1 hf2; have cHA0 := HA.out.2.1; have cHA1 := HA.out.2.2.1; have cHR0 := HR.out.2.1; have zHR0 := HR.out.2.2 0
  go_wp2_with fail
  all_goals refine bodyPost_ret (v := .tuple #[.agg #[.nilIface], .bool false]) (by simp [results, Tryz.results57, go_sem, cHR0]) rfl ⟨.nilIface, false, rfl, .inr ⟨rfl, rfl⟩, HB.out.setCell (by show w.heap.size ≤ w.heap.size + 1; omega) _⟩
end Go.Proofs.YtghojndkcndjbaaGreatDoor

/- Layer 13, walked: Fold of package fold. -/
namespace Go.Proofs.YtghojndkcndjbaaGreatDoor
set_option maxRecDepth 100000
open Go.RowKit Fl
set_option linter.unusedVariables false

set_option maxHeartbeats 8000000 in
theorem fofold_calls {ok : Nat → Prop} (f : Int) (u : Value) (V : VV) (outer n inner : Nat) (w : World) (hA : IsV w ok u V) (oA : V.ok) (nA : V.nm) (hl : V.len = outer * n * inner) (hno : n ≤ 1048576) (him : inner ≤ 1048576) (hom : outer ≤ 1048576) (hoi : outer * inner ≤ 1048576) (hT : TabAt w) :
  Calls Tryz.prog 22 #[.int .i64 f, .agg #[u], .int .i64 (outer : Int), .int .i64 (n : Int), .int .i64 (inner : Int)] w fun e w' => ∃ u', e = .returned (.tuple #[.agg #[u'], .int .i64 (foE f V outer n inner)]) ∧ IsV w' (fun b => ok b ∨ w.heap.size ≤ b) u' (foV f V outer n inner) ∧ Below w.heap.size w w' := by
 obtain ⟨E, hEE⟩ : ∃ E : Int, E = foE f V outer n inner := ⟨_, rfl⟩
 obtain ⟨R, hRR⟩ : ∃ R : VV, R = foV f V outer n inner := ⟨_, rfl⟩
 rw [← hRR, ← hEE]
 have HRR := Lib.hid hRR; have HEE := Lib.hid hEE; have hsu := hA.store; have HOA := Lib.hid oA; have HNA := Lib.hid nA; have HLL := Lib.hid hl; have HNO := Lib.hid hno; have HIM := Lib.hid him; have HOM := Lib.hid hom; have HOI := Lib.hid hoi
 have HVM := Lib.hid (VV.ok_len oA)
 obtain ⟨W1, hW1⟩ : ∃ W1, W1 = (w.alloc (.cells #[u] 35)).alloc (.cells #[.nilIface] 35) := ⟨_, rfl⟩
 have HB := Lib.hid (show Below w.heap.size w W1 by rw [hW1]; exact (below_new _ _).alloc (by simp) _)
 have HA := Lib.hid (show At1 W1 w.heap.size u by rw [hW1]; exact (At1.new w _ _).below (below_new _ _))
 have HR := Lib.hid (show At1 W1 (w.heap.size + 1) .nilIface by rw [hW1]; have := At1.new (w.alloc (.cells #[u] 35)) .nilIface 35; simpa using this)
 have HU := Lib.hid (show IsV W1 (fun b => ok b ∧ b < w.heap.size) u V from (hA.wide (ok' := fun b => ok b ∧ b < w.heap.size) (fun b hb h => ⟨h, hb⟩)).grow HB.out)
 have HT := Lib.hid (show TabAt W1 from fun j hj => keep_below HB.out _ _ (hT j hj))
 have HWS := Lib.hid (show W1.heap.size = w.heap.size + 2 by rw [hW1]; simp)
 have HW1 := Lib.hid (Below.refl W1.heap.size W1)
 obtain ⟨M, hM⟩ : ∃ M : Nat, (if (inner : Int) < (if (n : Int) < (outer : Int) then (n : Int) else (outer : Int)) then (inner : Int) else (if (n : Int) < (outer : Int) then (n : Int) else (outer : Int))) = (M : Int) := ⟨_, (Int.toNat_of_nonneg (by (repeat' split) <;> omega)).symm⟩
 have hmin : ∀ (ts : Array TypeId) (t : TypeId) (w : World), (Builtin.min_ ts t #[.int .i64 (outer : Int), .int .i64 (n : Int), .int .i64 (inner : Int)]).run Tryz.prog w = .ok (.int .i64 (M : Int)) w := fun ts t w => by rw [run_min_int3, hM]
 have h1 : ¬ (M : Int) < 0 := by omega
 obtain ⟨D, hD⟩ : ∃ D, outer * inner = D := ⟨_, rfl⟩
 rw [hD] at HOI
 have HDE := Lib.hid hD
 have hfold := hW1.symm
 have HPR := Lib.hid hsu; clear hA hT oA nA hl hW1 hEE hRR hno him hom hoi hD hM
 by_cases hk : fknown f = true
 rotate_left
 ·have HKN := Lib.hid (show fknown f = false by simpa using hk)
  have HE1 := Lib.hid (foE_1 (V := V) (outer := outer) (n := n) (inner := inner) HKN.out)
  clear hk; have cHA0 := HA.out.2.1; have cHR0 := HR.out.2.1; have zHR0 := HR.out.2.2 0
  go_enter Tryz.func22, Tryz.ntmps22
  go_wp2_with ((with_reducible refine (foknown_calls _ _).mono ?_); rintro e w' ⟨rfl, rfl⟩; rw [HKN.out])
  clear hfold
  refine bodyPost_ret (v := .tuple #[.agg #[.nilIface], .int .i64 1]) (by simp [results, Tryz.results22, go_sem, cHR0]) rfl ⟨.nilIface, by rw [HEE.out, HE1.out], ?_, HB.out.setCell (by show w.heap.size ≤ w.heap.size + 1; omega) _⟩
  rw [HRR.out, foV_bad (by rw [HE1.out]; decide)]; exact .none
 have HKN := Lib.hid hk
 obtain ⟨q, hq⟩ : ∃ q, decide (V.cls = 0 ∨ (V.cls = 1 ∧ (n : Int) = 1)) = q := ⟨_, rfl⟩
 have HQ0 := Lib.hid hq
 cases q
 ·have HE1 := Lib.hid (show foE f V outer n inner = 24 from foE_24 hk (by
   have h9 := of_decide_eq_false hq
   rcases VV.cls3 V with h | h | h
   ·exact absurd (.inl h) h9
   ·exact .inr ⟨h, fun h8 => h9 (.inr ⟨h, by omega⟩)⟩
   ·exact .inl h))
  clear hk hq; have cHA0 := HA.out.2.1; have cHR0 := HR.out.2.1; have zHR0 := HR.out.2.2 0
  go_enter Tryz.func22, Tryz.ntmps22
  go_wp2_with ((with_reducible refine (foknown_calls _ _).mono ?_); rintro e w' ⟨rfl, rfl⟩; rw [HKN.out])
  clear hfold
  refine (class_calls _ V _ HU.out).mono ?_
  rintro e W11 ⟨rfl, hB⟩
  clear cHA0 cHR0 zHR0; replace HB := cb hB HB; replace HW1 := cb hB HW1; replace HT := HT.go hB; replace HU := HU.go hB; replace HA := HA.go hB; replace HR := HR.go hB; clear hB; have cHA0 := HA.out.2.1; have cHR0 := HR.out.2.1; have zHR0 := HR.out.2.2 0
  go_wp2_with fail
  refine (foall_calls _ _ _).mono ?_
  rintro e w' ⟨rfl, rfl⟩
  rw [HQ0.out]
  go_wp2_with fail
  refine bodyPost_ret (v := .tuple #[.agg #[.nilIface], .int .i64 24]) (by simp [results, Tryz.results22, go_sem, cHR0]) rfl ⟨.nilIface, by rw [HEE.out, HE1.out], ?_, HB.out.setCell (by show w.heap.size ≤ w.heap.size + 1; omega) _⟩
  rw [HRR.out, foV_bad (by rw [HE1.out]; decide)]; exact .none
 ·by_cases h11 : n = 1
  ·have HE1 := Lib.hid (show foE f V outer n inner = 0 from foE_one hk (by have h9 := of_decide_eq_true hq; omega) h11)
   have HV1 := Lib.hid (show R = V by rw [HRR.out, foV_one HE1.out h11])
   have hb1 : ((n : Int) == 1) = true := by rw [h11]; rfl
   clear hk hq h11; have cHA0 := HA.out.2.1; have cHR0 := HR.out.2.1; have zHR0 := HR.out.2.2 0
   go_enter Tryz.func22, Tryz.ntmps22
   go_wp2_with ((with_reducible refine (foknown_calls _ _).mono ?_); rintro e w' ⟨rfl, rfl⟩; rw [HKN.out])
   clear hfold
   refine (class_calls _ V _ HU.out).mono ?_
   rintro e W11 ⟨rfl, hB⟩
   clear cHA0 cHR0 zHR0; replace HB := cb hB HB; replace HW1 := cb hB HW1; replace HT := HT.go hB; replace HU := HU.go hB; replace HA := HA.go hB; replace HR := HR.go hB; clear hB; have cHA0 := HA.out.2.1; have cHR0 := HR.out.2.1; have zHR0 := HR.out.2.2 0
   go_wp2_with fail
   refine (foall_calls _ _ _).mono ?_
   rintro e w' ⟨rfl, rfl⟩
   rw [HQ0.out]
   go_wp2_with fail
   refine bodyPost_ret (v := .tuple #[.agg #[u], .int .i64 0]) (by simp [results, Tryz.results22, go_sem, cHR0]) rfl ⟨u, by rw [HEE.out, HE1.out], ?_, HB.out.setCell (by show w.heap.size ≤ w.heap.size + 1; omega) _⟩
   rw [HV1.out]
   exact HU.out.keep (Kept.setCell _ _ _ (by simp)) (fun b _ h => .inl h.1)
  have hb1 : ((n : Int) == 1) = false := by rw [beq_eq_false_iff_ne]; omega
  have HC0 := Lib.hid (show V.cls = 0 by have h9 := of_decide_eq_true hq; omega)
  have HNL := Lib.hid (show V.nums.length = outer * n * inner by rw [VV.nums_len0 HC0.out, HLL.out])
  have HLE := Lib.hid (show (V.len : Int) = ((outer * n * inner : Nat) : Int) by rw [HLL.out])
  have HSZ := Lib.hid (show outer * n * inner ≤ 1048576 by rw [← HLL.out]; exact HVM.out)
  have HN1 := Lib.hid h11
  by_cases h00 : n = 0
  ·have hb0 : ((n : Int) == 0) = true := by rw [h00]; rfl
   obtain ⟨s, hs⟩ : ∃ s, fstart f = s := ⟨_, rfl⟩
   have HS := Lib.hid hs
   have HE1 := Lib.hid (show foE f V outer n inner = if s.2 = true then 0 else 24 by
    split
    ·rename_i h; rw [foE_num hk HC0.out h11 (by rw [hs, h]; simp), h00, rowsL_err0 _ _ _ (by rw [hs]; exact h)]
    ·rename_i h; exact foE_start hk h00 (by rw [hs]; simpa using h))
   have HV1 := Lib.hid (show R = if s.2 = true then sqL (List.replicate D s.1) else .none by
    rw [HRR.out]
    split
    ·rename_i h
     rw [foV_num (by rw [HE1.out, if_pos h]) h11, h00, rowsL_out0 _ _ _ (by rw [hs]; exact h), HDE.out, hs]
    ·rename_i h; exact foV_bad (by rw [HE1.out, if_neg h]; decide))
   have qD : IntKind.i64.wrap ((outer : Int) * (inner : Int)) = (D : Int) := by rw [← Int.natCast_mul, HDE.out]; exact IntWalk.i64_in _ (by have := HOI.out; omega)
   obtain ⟨sE, hsE⟩ : ∃ sE : Int, (if s.2 = true then (0 : Int) else 24) = sE := ⟨_, rfl⟩
   obtain ⟨sV, hsV⟩ : ∃ sV : VV, (if s.2 = true then sqL (List.replicate D s.1) else VV.none) = sV := ⟨_, rfl⟩
   have HSE := Lib.hid hsE; have HSV := Lib.hid hsV
   rw [hsE] at HE1
   rw [hsV] at HV1
   clear hk hq h11 h00 hs hsE hsV; have cHA0 := HA.out.2.1; have cHR0 := HR.out.2.1; have zHR0 := HR.out.2.2 0
   go_enter Tryz.func22, Tryz.ntmps22
   go_wp2_with ((with_reducible refine (foknown_calls _ _).mono ?_); rintro e w' ⟨rfl, rfl⟩; rw [HKN.out])
   clear hfold
   refine (class_calls _ V _ HU.out).mono ?_
   rintro e W11 ⟨rfl, hB⟩
   clear cHA0 cHR0 zHR0; replace HB := cb hB HB; replace HW1 := cb hB HW1; replace HT := HT.go hB; replace HU := HU.go hB; replace HA := HA.go hB; replace HR := HR.go hB; clear hB; have cHA0 := HA.out.2.1; have cHR0 := HR.out.2.1; have zHR0 := HR.out.2.2 0
   go_wp2_with fail
   refine (foall_calls _ _ _).mono ?_
   rintro e w' ⟨rfl, rfl⟩
   rw [HQ0.out]
   go_wp2_with fail
   refine (vlen_calls _ V _ HU.out).mono ?_
   rintro e W12 ⟨rfl, hB⟩
   clear cHA0 cHR0 zHR0; replace HB := cb hB HB; replace HW1 := cb hB HW1; replace HT := HT.go hB; replace HU := HU.go hB; replace HA := HA.go hB; replace HR := HR.go hB; rw [HLE.out]; clear hB; have cHA0 := HA.out.2.1; have cHR0 := HR.out.2.1; have zHR0 := HR.out.2.2 0
   go_wp2_with fail
   refine (fosized_calls outer n inner _ HSZ.out HNO.out HIM.out HOM.out (by rw [HDE.out]; exact HOI.out)).mono ?_
   rintro e w' ⟨rfl, rfl⟩
   go_wp2_with fail
   have hO := HW1.out.size
   refine (fonone_calls f D _ HOI.out HT.out).mono ?_
   rintro e W13 ⟨uq, rfl, huq, hB⟩
   clear cHA0 cHR0 zHR0; replace HB := cb hB HB; replace HW1 := cb hB HW1; replace HT := HT.go hB; replace HU := HU.go hB; replace HA := HA.go hB; replace HR := HR.go hB
   rw [HS.out, HSE.out]
   rw [HS.out, HSV.out] at huq
   have HQ := Lib.hid (show IsV W13 (fun b => w.heap.size + 2 ≤ b) uq sV from huq.wide (fun b _ (h : W12.heap.size ≤ b) => by have := HWS.out; omega))
   have hsq := huq.store; clear huq hO; clear hB; have cHA0 := HA.out.2.1; have cHR0 := HR.out.2.1; have zHR0 := HR.out.2.2 0
   go_wp2_with fail
   refine bodyPost_ret (v := .tuple #[.agg #[uq], .int .i64 sE]) (by simp [results, Tryz.results22, go_sem, cHR0]) rfl ⟨uq, by rw [HEE.out, HE1.out], ?_, HB.out.setCell (by show w.heap.size ≤ w.heap.size + 1; omega) _⟩
   rw [HV1.out]
   exact HQ.out.keep (Kept.setCell _ _ _ (by simp)) (fun b _ (h : w.heap.size + 2 ≤ b) => .inr (by omega))
  have hb0 : ((n : Int) == 0) = false := by rw [beq_eq_false_iff_ne]; omega
  have HN0 := Lib.hid (show 0 < n by omega)
  obtain ⟨P, hP⟩ : ∃ P, rowsL V.nums outer n inner = P := ⟨_, rfl⟩
  have HPE := Lib.hid hP
  have HE1 := Lib.hid (show foE f V outer n inner = errG (rowN f) P by rw [foE_num hk HC0.out h11 (by omega), hP])
  have HV1 := Lib.hid (show R = if errG (rowN f) P = 0 then sqL (outG (rowN f) P) else .none by
   rw [HRR.out]
   split
   ·rename_i h; rw [foV_num (by rw [HE1.out]; exact h) h11, hP]
   ·rename_i h; exact foV_bad (by rw [HE1.out]; exact h))
  have HNN := Lib.hid (VV.nums_num HOA.out HNA.out)
  clear hk hq h11 h00 hP; have cHA0 := HA.out.2.1; have cHR0 := HR.out.2.1; have zHR0 := HR.out.2.2 0
  go_enter Tryz.func22, Tryz.ntmps22
  go_wp2_with ((with_reducible refine (foknown_calls _ _).mono ?_); rintro e w' ⟨rfl, rfl⟩; rw [HKN.out])
  clear hfold
  refine (class_calls _ V _ HU.out).mono ?_
  rintro e W11 ⟨rfl, hB⟩
  clear cHA0 cHR0 zHR0; replace HB := cb hB HB; replace HW1 := cb hB HW1; replace HT := HT.go hB; replace HU := HU.go hB; replace HA := HA.go hB; replace HR := HR.go hB; clear hB; have cHA0 := HA.out.2.1; have cHR0 := HR.out.2.1; have zHR0 := HR.out.2.2 0
  go_wp2_with fail
  refine (foall_calls _ _ _).mono ?_
  rintro e w' ⟨rfl, rfl⟩
  rw [HQ0.out]
  go_wp2_with fail
  refine (vlen_calls _ V _ HU.out).mono ?_
  rintro e W12 ⟨rfl, hB⟩
  clear cHA0 cHR0 zHR0; replace HB := cb hB HB; replace HW1 := cb hB HW1; replace HT := HT.go hB; replace HU := HU.go hB; replace HA := HA.go hB; replace HR := HR.go hB; rw [HLE.out]; clear hB; have cHA0 := HA.out.2.1; have cHR0 := HR.out.2.1; have zHR0 := HR.out.2.2 0
  go_wp2_with fail
  refine (fosized_calls outer n inner _ HSZ.out HNO.out HIM.out HOM.out (by rw [HDE.out]; exact HOI.out)).mono ?_
  rintro e w' ⟨rfl, rfl⟩
  go_wp2_with fail
  refine (packed_x _ V _ HU.out).mono ?_
  rintro e W13 ⟨vp, rfl, hvp, hB⟩
  clear cHA0 cHR0 zHR0; replace HB := cb hB HB; replace HW1 := cb hB HW1; replace HT := HT.go hB; replace HU := HU.go hB; replace HA := HA.go hB; replace HR := HR.go hB; have HVP := Lib.hid hvp.bits
  obtain ⟨ap, cp, rfl, _⟩ := HVP.out.opened
  clear hvp; clear hB
  obtain ⟨W14, hWn, hB, hNB⟩ := ahd2 W13 (.int .i64 V.packed.length) (.slice ap ((V.packed.length + 63) / 64) cp) 74
  replace HB := cb hB HB; replace HW1 := cb hB HW1; replace HT := HT.go hB; replace HU := HU.go hB; replace HA := HA.go hB; replace HR := HR.go hB; replace HVP := HVP.go hB; have HP := Lib.hid hNB; clear hNB hB; have cHA0 := HA.out.2.1; have cHR0 := HR.out.2.1; have zHR0 := HR.out.2.2 0; have cHP0 := HP.out.2.1; have cHP1 := HP.out.2.2.1
  obtain ⟨bt, hbt⟩ : ∃ bt, V.isBit = bt := ⟨_, rfl⟩
  rw [hbt]
  cases bt
  ·clear hbt
   go_wp2_with fail
   clear hWn
   refine (vnums_calls _ V _ HU.out HOA.out HT.out).mono ?_
   rintro e W15 ⟨vn, rfl, hvn, hB⟩
   clear cHA0 cHR0 zHR0 cHP0 cHP1; replace HB := cb hB HB; replace HW1 := cb hB HW1; replace HT := HT.go hB; replace HU := HU.go hB; replace HA := HA.go hB; replace HR := HR.go hB; replace HVP := HVP.go hB; replace HP := HP.go hB; have HVN := Lib.hid hvn.any; clear hvn; clear hB; have cHA0 := HA.out.2.1; have cHR0 := HR.out.2.1; have zHR0 := HR.out.2.2 0; have cHP0 := HP.out.2.1; have cHP1 := HP.out.2.2.1
   go_wp2_with fail
   have hO := HW1.out.size
   refine (fonumbers_calls f _ V.nums outer n inner _ HVN.out HNL.out (by rw [HNL.out]; exact HSZ.out) HNN.out HN0.out HNO.out HIM.out HOM.out (by rw [HDE.out]; exact HOI.out) HT.out).mono ?_
   rintro e W16 ⟨uq, rfl, huq, hB⟩
   clear cHA0 cHR0 zHR0 cHP0 cHP1; replace HB := cb hB HB; replace HW1 := cb hB HW1; replace HT := HT.go hB; replace HU := HU.go hB; replace HA := HA.go hB; replace HR := HR.go hB; replace HVP := HVP.go hB; replace HP := HP.go hB; replace HVN := HVN.go hB
   rw [HPE.out] at huq ⊢
   rw [← HV1.out] at huq
   rw [← HE1.out, ← HEE.out]
   have HQ := Lib.hid (show IsV W16 (fun b => w.heap.size + 2 ≤ b) uq R from huq.wide (fun b _ (h : W15.heap.size ≤ b) => by have := HWS.out; omega))
   have hsq := huq.store; clear huq hO; clear hB; have cHA0 := HA.out.2.1; have cHR0 := HR.out.2.1; have zHR0 := HR.out.2.2 0; have cHP0 := HP.out.2.1; have cHP1 := HP.out.2.2.1
   go_wp2_with fail
   refine bodyPost_ret (v := .tuple #[.agg #[uq], .int .i64 E]) (by simp [results, Tryz.results22, go_sem, cHR0]) rfl ⟨uq, rfl, ?_, HB.out.setCell (by show w.heap.size ≤ w.heap.size + 1; omega) _⟩
   exact HQ.out.keep (Kept.setCell _ _ _ (by simp)) (fun b _ (h : w.heap.size + 2 ≤ b) => .inr (by omega))
  ·have HPL := Lib.hid (VV.bit_nums hbt)
   have HPN := Lib.hid (show rowsL (V.packed.map flagW) outer n inner = P by rw [← HPL.out.1, HPE.out])
   have HPK := Lib.hid (show V.packed.length = outer * n * inner by rw [HPL.out.2.1, HLL.out])
   clear hbt
   go_wp2_with fail
   clear hWn; have hO := HW1.out.size
   refine (foflags_calls f _ V.packed outer n inner _ HVP.out (by rw [HPK.out]; exact HSZ.out) HPK.out HN0.out HNO.out HIM.out HOM.out (by rw [HDE.out]; exact HOI.out) HT.out).mono ?_
   rintro e W15 ⟨uz, r, rfl, hr, hB⟩
   clear cHA0 cHR0 zHR0 cHP0 cHP1; replace HB := cb hB HB; replace HW1 := cb hB HW1; replace HT := HT.go hB; replace HU := HU.go hB; replace HA := HA.go hB; replace HR := HR.go hB; replace HVP := HVP.go hB; replace HP := HP.go hB
   rw [HPN.out] at hr
   have HSO := Lib.hid (show w.heap.size + 2 ≤ W14.heap.size by have := HWS.out; omega)
   clear hO; clear hB
   rcases hr with ⟨rfl, he, hi⟩ | ⟨rfl, hz⟩
   ·have HI := Lib.hid (show IsV W15 (fun b => w.heap.size + 2 ≤ b) uz (sqL (outG (rowN f) P)) from hi.wide (fun b _ h => Nat.le_trans HSO.out h))
    have hsz := hi.store; have HE2 := Lib.hid he; clear hi he
    obtain ⟨W16, hWn, hB, hNB⟩ := ahd1 W15 (uz) 35
    replace HB := cb hB HB; replace HW1 := cb hB HW1; replace HT := HT.go hB; replace HU := HU.go hB; replace HA := HA.go hB; replace HR := HR.go hB; replace HVP := HVP.go hB; replace HP := HP.go hB; replace HI := HI.go hB; have HZA := Lib.hid hNB; clear hNB hB; have cHA0 := HA.out.2.1; have cHR0 := HR.out.2.1; have zHR0 := HR.out.2.2 0; have cHP0 := HP.out.2.1; have cHP1 := HP.out.2.2.1; have cHZA0 := HZA.out.2.1
    go_wp2_with fail
    clear hWn
    refine bodyPost_ret (v := .tuple #[.agg #[uz], .int .i64 0]) (by simp [results, Tryz.results22, go_sem, cHR0]) rfl ⟨uz, by rw [HEE.out, HE1.out, HE2.out], ?_, HB.out.setCell (by show w.heap.size ≤ w.heap.size + 1; omega) _⟩
    rw [HV1.out, if_pos HE2.out]
    exact HI.out.keep (Kept.setCell _ _ _ (by simp)) (fun b _ (h : w.heap.size + 2 ≤ b) => .inr (by omega))
   ·have hsz : ∀ (w : World) (a : Addr) (m : Mode), (store a uz m).run Tryz.prog w = stored Tryz.prog w a uz m := by subst hz; exact fun w a m => run_store Tryz.prog w a _ m rfl
    clear hz
    obtain ⟨W16, hWn, hB, hNB⟩ := ahd1 W15 (uz) 35
    replace HB := cb hB HB; replace HW1 := cb hB HW1; replace HT := HT.go hB; replace HU := HU.go hB; replace HA := HA.go hB; replace HR := HR.go hB; replace HVP := HVP.go hB; replace HP := HP.go hB; have HZA := Lib.hid hNB; clear hNB hB; have cHA0 := HA.out.2.1; have cHR0 := HR.out.2.1; have zHR0 := HR.out.2.2 0; have cHP0 := HP.out.2.1; have cHP1 := HP.out.2.2.1; have cHZA0 := HZA.out.2.1
    go_wp2_with fail
    clear hWn
    refine (vnums_calls _ V _ HU.out HOA.out HT.out).mono ?_
    rintro e W17 ⟨vn, rfl, hvn, hB⟩
    clear cHA0 cHR0 zHR0 cHP0 cHP1 cHZA0; replace HB := cb hB HB; replace HW1 := cb hB HW1; replace HT := HT.go hB; replace HU := HU.go hB; replace HA := HA.go hB; replace HR := HR.go hB; replace HVP := HVP.go hB; replace HP := HP.go hB; replace HZA := HZA.go hB; have HVN := Lib.hid hvn.any; clear hvn; clear hB; have cHA0 := HA.out.2.1; have cHR0 := HR.out.2.1; have zHR0 := HR.out.2.2 0; have cHP0 := HP.out.2.1
    have cHP1 := HP.out.2.2.1; have cHZA0 := HZA.out.2.1
    go_wp2_with fail
    have hO := HW1.out.size
    refine (fonumbers_calls f _ V.nums outer n inner _ HVN.out HNL.out (by rw [HNL.out]; exact HSZ.out) HNN.out HN0.out HNO.out HIM.out HOM.out (by rw [HDE.out]; exact HOI.out) HT.out).mono ?_
    rintro e W18 ⟨uq, rfl, huq, hB⟩
    clear cHA0 cHR0 zHR0 cHP0 cHP1 cHZA0; replace HB := cb hB HB; replace HW1 := cb hB HW1; replace HT := HT.go hB; replace HU := HU.go hB; replace HA := HA.go hB; replace HR := HR.go hB; replace HVP := HVP.go hB; replace HP := HP.go hB; replace HZA := HZA.go hB; replace HVN := HVN.go hB
    rw [HPE.out] at huq ⊢
    rw [← HV1.out] at huq
    rw [← HE1.out, ← HEE.out]
    have HQ := Lib.hid (show IsV W18 (fun b => w.heap.size + 2 ≤ b) uq R from huq.wide (fun b _ (h : W17.heap.size ≤ b) => by have := HWS.out; omega))
    have hsq := huq.store; clear huq hO; clear hB; have cHA0 := HA.out.2.1; have cHR0 := HR.out.2.1; have zHR0 := HR.out.2.2 0; have cHP0 := HP.out.2.1; have cHP1 := HP.out.2.2.1; have cHZA0 := HZA.out.2.1
    go_wp2_with fail
    refine bodyPost_ret (v := .tuple #[.agg #[uq], .int .i64 E]) (by simp [results, Tryz.results22, go_sem, cHR0]) rfl ⟨uq, rfl, ?_, HB.out.setCell (by show w.heap.size ≤ w.heap.size + 1; omega) _⟩
    exact HQ.out.keep (Kept.setCell _ _ _ (by simp)) (fun b _ (h : w.heap.size + 2 ≤ b) => .inr (by omega))
end Go.Proofs.YtghojndkcndjbaaGreatDoor

/- Layer 13, walked: the reference's Line. -/
namespace Go.Proofs.YtghojndkcndjbaaGreatDoor
set_option maxRecDepth 100000
open Go.RowKit Fl
set_option linter.unusedVariables false

theorem lineG_take {α : Type} (d : α) (l : List α) (n inner o k : Nat) {i : Nat} (h : i < n) : (lineG d l n inner o k).take (i + 1) = (lineG d l n inner o k).take i ++ [l.getD ((o * n + i) * inner + k) d] := by
 have h1 : i < (lineG d l n inner o k).length := by rw [lineG_len]; exact h
 rw [List.take_succ_eq_append_getElem h1]
 congr 2
 simp [lineG]
set_option maxHeartbeats 4000000 in
theorem rfline_calls {ok : Nat → Prop} (v : Value) (l : List Nat) (outer n inner o k : Nat) (w : World) (hv : Slc w ok v l.length (f64s l)) (hl : l.length = outer * n * inner) (hlm : l.length ≤ 1048576) (ho : o < outer) (hk : k < inner) (hnm : n ≤ 1048576) (him : inner ≤ 1048576) (hom : outer ≤ 1048576) :
  Calls Tryz.prog 60 #[v, .int .i64 (outer : Int), .int .i64 (n : Int), .int .i64 (inner : Int), .int .i64 (o : Int), .int .i64 (k : Int)] w fun e w' => ∃ v', e = .returned v' ∧ Slc w' (fun b => w.heap.size ≤ b) v' n (f64s (lineG 0 l n inner o k)) ∧ Below w.heap.size w w' := by
 obtain ⟨R, hR⟩ : ∃ R, lineG 0 l n inner o k = R := ⟨_, rfl⟩
 have HRL := Lib.hid (show R.length = n by rw [← hR, lineG_len])
 have HTK := Lib.hid (show ∀ i, i < n → R.take (i + 1) = R.take i ++ [l.getD ((o * n + i) * inner + k) 0] from fun i hi => by rw [← hR]; exact lineG_take 0 l n inner o k hi)
 rw [hR]; clear hR
 obtain ⟨i0, hi, hz0, hz1, hz2⟩ := info_parts info_f64
 have HI0 := Lib.hid (And.intro hi (And.intro hz0 (And.intro hz1 hz2)))
 clear hi hz0 hz1 hz2
 obtain ⟨ao, cap, rfl, _⟩ := hv.opened
 have HV := Lib.hid hv
 have hst := run_store_float
 have HPL := Lib.hid (show ∀ i, i < n → (o * n + i) * inner + k < l.length from fun i hi => by rw [hl]; exact place_lt ho hi hk)
 have HLM := Lib.hid hlm; have HKI := Lib.hid hk; clear hv hl hlm ho
 go_enter Tryz.func60, Tryz.ntmps60
 go_wp2_with fail
 go_loopw [13, 14] (fun v i wr => ∃ j : Nat, j ≤ n ∧ i = .int .i64 j ∧ wr.ownsRow w.heap.size 22 1 v j (f64s (R.take j)) ∧ Below w.heap.size w wr) (fun _ i _ => n - (intOf i).toNat)
 case atStart => exact ⟨0, by omega, rfl, World.ownsRow_nil _ _ _ _, Below.refl _ _⟩
 case round =>
  obtain ⟨j, hj, rfl, hown, hB⟩ := hrel
  have HO := Lib.hid hown; have HB := Lib.hid hB; clear hown hB
  by_cases hlt : j < n
  ·have hd := HPL.out j hlt
   have hlm := HLM.out
   obtain ⟨A, hA⟩ : ∃ A, o * n = A := ⟨_, rfl⟩
   rw [hA] at hd
   obtain ⟨B, hBB⟩ : ∃ B, A + j = B := ⟨_, rfl⟩
   rw [hBB] at hd
   obtain ⟨C, hC⟩ : ∃ C, B * inner = C := ⟨_, rfl⟩
   have hBC : B ≤ C := by rw [← hC]; exact Nat.le_mul_of_pos_right _ (by omega)
   rw [hC] at hd
   obtain ⟨D, hD⟩ : ∃ D, C + k = D := ⟨_, rfl⟩
   rw [hD] at hd
   obtain ⟨b, off, cap', x, e0, hx, hcx⟩ := Slc.at_map (Value.float .f64) HV.out D hd
   cases e0
   have hcx := keep_below HB.out _ _ hcx
   have q1 : IntKind.i64.wrap ((o : Int) * (n : Int)) = (A : Int) := by rw [← Int.natCast_mul, hA]; exact IntWalk.i64_in _ (by omega)
   have q2 : IntKind.i64.wrap ((A : Int) + (j : Int)) = (B : Int) := by rw [← Int.natCast_add, hBB]; exact IntWalk.i64_in _ (by omega)
   have q3 : IntKind.i64.wrap ((B : Int) * (inner : Int)) = (C : Int) := by rw [← Int.natCast_mul, hC]; exact IntWalk.i64_in _ (by omega)
   have q4 : IntKind.i64.wrap ((C : Int) + (k : Int)) = (D : Int) := by rw [← Int.natCast_add, hD]; exact IntWalk.i64_in _ (by omega)
   have HT := Lib.hid (show R.take (j + 1) = R.take j ++ [x] by rw [HTK.out j hlt, hA, hBB, hC, hD, List.getD_eq_getElem?_getD, hx]; rfl)
   have HM1 : Hid (j + 1 ≤ maxLen) := Lib.hid (by unfold maxLen; omega)
   have HSW := Lib.hid HB.out.size; clear hA hBB hC hD hx hBC
   go_wp2_with (at_builtin; refine wpList_append_own _ rfl _ _ 38 rfl w.heap.size 22 i0 (.float .f64 0) 1 8 Tryz.underlying38 HI0.out.1 HI0.out.2.1 HI0.out.2.2.1 HI0.out.2.2.2 rfl (by decide) _ _ _ rfl (HO.out.alloc _) ⟨wr.heap.size, 0, none⟩ 1 1 [.float .f64 x] rfl rfl ?c1 ?c2 HM1.out ?c4 ?c5 ?_)
   case c1 =>
    intro j u hj
    match j, hj with
    | 0, hj => simp at hj; subst hj; simp [Addr.add]
   case c2 => intro u hu; simp at hu; subst hu; rfl
   case c4 => omega
   case c5 => have := HSW.out; simp <;> omega
   intro v' w3 hown' hgrow _
   have HO3 := Lib.hid hown'
   have HB3 := Lib.hid (grown_below (HB.out.alloc HSW.out _) (HO.out.alloc _) (Nat.le_refl _) (by have := HSW.out; simp <;> omega) hgrow)
   clear hown' hgrow
   go_wp2
   go_roundw
   case rel =>
    refine ⟨j + 1, by omega, by go_num, ?_, HB3.out⟩
    have := HO3.out
    rw [HT.out]
    simpa [f64s] using this
   case measure => simp [intOf]; omega
  ·have hjn : j = n := by omega
   have HL := Lib.hid (show Slc wr (fun b => w.heap.size ≤ b) _ n (f64s R) by
    have := Slc.owned HO.out
    rw [hjn, ← HRL.out, List.take_length, HRL.out] at this
    exact this)
   clear hjn
   go_wp2
   go_ret
   exact ⟨_, rfl, HL.out, HB.out⟩
end Go.Proofs.YtghojndkcndjbaaGreatDoor
