import Derived.Test.YtbacchbcanlciaaGreatDoorSc1
import Derived.Test.YtbacchbcanlciaaGreatDoorMgFo1
import Derived.Test.YtbacchbcanlciaaGreatDoorMgVe1
namespace Go.Proofs.YtbacchbcanlciaaGreatDoor
set_option maxRecDepth 100000
open Go.RowKit Fl
set_option linter.unusedVariables false

theorem sc_nums {f : Int} {V : VV} {t : List Nat} {outer n inner : Nat} (hV : KepK t V) (hl : t.length = outer * n * inner) :
  scE f V outer n inner = rsE f t outer n inner ∧ (scV f V outer n inner).nums = rsL f t outer n inner ∧ (scV f V outer n inner).ok ∧ (∀ x ∈ rsL f t outer n inner, Num x) ∧ (rsL f t outer n inner).length ≤ 2000000 := by
 obtain ⟨e, h1, h2⟩ := sc_meet (f := f) hV hl
 refine ⟨e, ?_⟩
 by_cases h : rsE f t outer n inner = 0
 ·obtain ⟨a, b, _, _, c, d⟩ := h2 h; exact ⟨a, b, c, d⟩
 ·rw [h1 h, rsL_bad h]
  exact ⟨rfl, trivial, (fun x hx => nomatch hx), by simp⟩
theorem Slc.put_at {w : World} {ok : Nat → Prop} {s : Value} {n : Nat} {xs : List Value} (h : Slc w ok s n xs) {p : Addr} {y : Value} (hp : w.cell? p = some y) (hy : ∀ u ∈ xs, y ≠ u) (x : Value) : Slc (w.setCell p x) ok s n xs := by
 obtain ⟨⟨h1, ao1, cap1, e1, h3⟩, h4⟩ := h
 refine ⟨⟨h1, ao1, cap1, e1, fun i hi => ?_⟩, h4⟩
 obtain ⟨b, off, e, hb, hc⟩ := h3 i hi
 refine ⟨b, off, e, hb, (World.cell?_setCell_other _ _ _ _ fun e9 => ?_).trans hc⟩
 rw [e9] at hp
 exact hy _ (List.getElem_mem hi) (Option.some.inj (hp.symm.trans hc))
theorem IsV.iface_set {w : World} {ok : Nat → Prop} {u : Value} {V : VV} (h : IsV w ok u V) (hc : V.cls ≠ 2) {p : Addr} {y : Value} (hp : w.cell? p = some y) (hy : IsIface y) (x : Value) : IsV (w.setCell p x) ok u V := by
 have hi : ∀ k (z : Int), y ≠ .int k z := fun k z e => by rcases hy with rfl | ⟨t, q, rfl⟩ <;> cases e
 have hf : ∀ k (z : Nat), y ≠ .float k z := fun k z e => by rcases hy with rfl | ⟨t, q, rfl⟩ <;> cases e
 cases h with
 | none => exact .none
 | bits h hm => exact (IsV.bits h hm).put_at hp (fun z => hi _ _) x
 | smalls h => exact .smalls (h.put_at hp (fun u hu => by obtain ⟨z, _, rfl⟩ := List.mem_map.1 hu; exact hi _ _) x)
 | ints h => exact .ints (h.put_at hp (fun u hu => by obtain ⟨z, _, rfl⟩ := List.mem_map.1 hu; exact hi _ _) x)
 | floats h => exact .floats (h.put_at hp (fun u hu => by obtain ⟨z, _, rfl⟩ := List.mem_map.1 hu; exact hf _ _) x)
 | chars h => exact .chars (h.put_at hp (fun u hu => by obtain ⟨z, _, rfl⟩ := List.mem_map.1 hu; exact hi _ _) x)
 | boxes f g h1 h2 h3 h4 h5 => exact absurd rfl hc
theorem scV_cls {f : Int} {V : VV} {t : List Nat} {outer n inner : Nat} (hV : KepK t V) (hl : t.length = outer * n * inner) : (scV f V outer n inner).cls ≠ 2 := by
 obtain ⟨⟨h1, h2, h3, h4, h5⟩, h6⟩ := hV
 by_cases he : scE f V outer n inner = 0
 ·by_cases hn : n ≤ 1
  ·rw [scV_one he hn, h3]; decide
  ·rw [scV_num he (by omega)]
   have hs := VV.ok_len h1
   rw [← VV.nums_len0 h3, h4, hl] at hs
   rw [(sqL_spec (l := outG (rowN f) (upRows V.nums outer n inner)) (by rw [outG_len, upRows_len]; exact hs) (outG_num (upRows_num (VV.nums_num h1 h2)))).2.2.2.1]
   decide
 ·rw [scV_bad he]; decide
theorem rsscan_at {ok : Nat → Prop} (f : Int) (v : Value) (l : List Nat) (outer n inner : Nat) (o nn ii : Int) (w : World) (ho : o = (outer : Int)) (hn : nn = (n : Int)) (hi : ii = (inner : Int)) (hv : Slc w ok v l.length (f64s l)) (hl : l.length = outer * n * inner) (hlm : l.length ≤ 1048576) (hN : ∀ x ∈ l, Num x) (hnm : n ≤ 1048576) (him : inner ≤ 1048576) (hom : outer ≤ 1048576) :
  Calls Tryz.prog 10 #[.int .i64 f, v, .int .i64 o, .int .i64 nn, .int .i64 ii] w fun e w' => ∃ v', e = .returned (.tuple #[v', .int .i64 (rsE f l outer n inner)]) ∧ Slc w' (fun b => w.heap.size ≤ b) v' (rsL f l outer n inner).length (f64s (rsL f l outer n inner)) ∧ Below w.heap.size w w' := by
 subst ho hn hi
 exact rsscan_calls f v l outer n inner w hv hl hlm hN hnm him hom
set_option maxHeartbeats 16000000 in
theorem scanLong_walk (f : Int) (vb : Value) (b : List Bool) (n : Nat) (vg : Value) (g : List Int) (w : World) (hvb : Slc w (fun _ => True) vb b.length (bools b)) (hvg : Slc w (fun _ => True) vg g.length (ints g)) (hgw : ∀ z ∈ g, (Lit.int .i64 z).wf = true) (hlb : b.length ≤ maxLen) (hlg : g.length ≤ maxLen) (hn : n < 256) (hT : TabAt w) :
  Calls Tryz.prog 4 #[.int .i64 f, vb, .int .u8 (n : Int), vg] w (Yes14 w) := by
 have HVB := Lib.hid hvb; have HVG := Lib.hid hvg; have HT := Lib.hid hT; have HGW := Lib.hid hgw
 have HB := Lib.hid (Below.refl w.heap.size w)
 obtain ⟨ao, cap, rfl, _⟩ := hvb.opened
 obtain ⟨go_, cgp, rfl, _⟩ := hvg.opened
 obtain ⟨kk, hkk⟩ : ∃ kk, n % 80 + 1 = kk := ⟨_, rfl⟩
 obtain ⟨nm, hnm⟩ : ∃ nm, n % 80 = nm := ⟨_, rfl⟩
 have hn1 : (n : Int) % 80 = (nm : Int) := by rw [← hnm]; omega
 have hnw : IntKind.i64.wrap (nm : Int) = (nm : Int) := IntWalk.i64_in _ (by omega)
 have hn2 : IntKind.i64.wrap ((nm : Int) + 1) = (kk : Int) := by rw [IntWalk.i64_in _ (by omega)]; omega
 have hk0 : 0 < (kk : Int) := by omega
 have HK100 := Lib.hid (show kk ≤ 80 by omega)
 have HKP := Lib.hid (show 0 < kk by omega)
 clear hvb hvg hT hgw hn hkk hnm
 by_cases hga : 300 < b.length
 ·go_enter Tryz.func4, Tryz.ntmps4
  go_wp2_with fail
  refine (awake14_calls _ HT.out).mono ?_
  rintro e W11 ⟨rfl, hB⟩
  replace HB := cb hB HB; replace HT := HT.go hB; replace HVB := HVB.go hB; replace HVG := HVG.go hB; clear hB
  go_wp2_with fail
  go_ret
  exact ⟨rfl, HB.out⟩
 by_cases hgb : 60 < g.length
 ·go_enter Tryz.func4, Tryz.ntmps4
  go_wp2_with fail
  refine (awake14_calls _ HT.out).mono ?_
  rintro e W11 ⟨rfl, hB⟩
  replace HB := cb hB HB; replace HT := HT.go hB; replace HVB := HVB.go hB; replace HVG := HVG.go hB; clear hB
  go_wp2_with fail
  go_ret
  exact ⟨rfl, HB.out⟩
 have HLB := Lib.hid (show b.length ≤ 300 by omega)
 have HLG := Lib.hid (show g.length ≤ 60 by omega)
 obtain ⟨Q, hQ⟩ : ∃ Q, b.length / kk = Q := ⟨_, rfl⟩
 have hQm : Q ≤ 300 := by rw [← hQ]; exact Nat.le_trans (Nat.div_le_self _ _) (by omega)
 obtain ⟨T, hTQ⟩ : ∃ T, Q * kk = T := ⟨_, rfl⟩
 have hTb : T ≤ b.length := by rw [← hTQ, ← hQ]; exact Nat.div_mul_le_self _ _
 have HTQ := Lib.hid hTQ; have HTB := Lib.hid hTb
 have qa : IntKind.i64.wrap ((b.length : Int) / (kk : Int)) = (Q : Int) := by rw [show ((b.length : Int) / (kk : Int)) = ((Q : Nat) : Int) by rw [← hQ]; simp]; exact IntWalk.i64_in _ (by omega)
 have qb : IntKind.i64.wrap ((Q : Int) * (kk : Int)) = (T : Int) := by rw [← Int.natCast_mul, hTQ]; exact IntWalk.i64_in _ (by omega)
 have HQM := Lib.hid hQm; clear hQ hTQ hlb hlg
 go_enter Tryz.func4, Tryz.ntmps4
 go_wp2_with fail
 obtain ⟨i0, hi, hz0, hz1, hz2⟩ := info_parts info_f64
 have HI0 := Lib.hid (And.intro hi (And.intro hz0 (And.intro hz1 hz2)))
 clear hi hz0 hz1 hz2
 have hst := run_store_float
 go_loopw [10, 12] (fun v i wr => ∃ j : Nat, j ≤ T ∧ i = .int .i64 j ∧ wr.ownsRow w.heap.size 42 1 v j (f64s ((b.take j).map flagW)) ∧ Below w.heap.size w wr) (fun _ i _ => T - (intOf i).toNat)
 case atStart => exact ⟨0, by omega, rfl, World.ownsRow_nil _ _ _ _, Below.refl _ _⟩
 case round =>
  obtain ⟨j, hj, rfl, hown, hB⟩ := hrel
  have HO := Lib.hid hown; have HBW := Lib.hid hB; clear hown hB; have hb6 := HLB.out
  by_cases hlt : j < T
  ·obtain ⟨b9, off, cap', x, e9, hx, hcx⟩ := Slc.at_map Value.bool HVB.out j (by have := HTB.out; omega)
   cases e9
   have hcx := keep_below HBW.out _ _ hcx
   have HTK := Lib.hid (show (b.take (j + 1)).map flagW = (b.take j).map flagW ++ [flagW x] by
    obtain ⟨h9, e9⟩ := List.getElem?_eq_some_iff.1 hx
    rw [List.take_succ_eq_append_getElem h9, e9]; simp)
   have HM1 : Hid (j + 1 ≤ maxLen) := Lib.hid (by unfold maxLen; have := HTB.out; omega)
   have HM2 := Lib.hid (show j + 1 ≤ 1048576 by have := HTB.out; omega)
   have HSW := Lib.hid HBW.out.size
   have HTM := Lib.hid (show T ≤ 300 by have := HTB.out; omega)
   clear hx
   cases x
   ·go_wp2_with (at_builtin; refine wpList_append_own _ rfl _ _ 22 rfl w.heap.size 42 i0 (.float .f64 0) 1 8 Tryz.underlying22 HI0.out.1 HI0.out.2.1 HI0.out.2.2.1 HI0.out.2.2.2 rfl (by decide) _ _ _ rfl (HO.out.alloc _) ⟨wr.heap.size, 0, none⟩ 1 1 [.float .f64 0] rfl rfl ?c1 ?c2 HM1.out ?c4 ?c5 ?_)
    case c1 =>
     intro j u hj
     match j, hj with
     | 0, hj => simp at hj; subst hj; simp [Addr.add]
    case c2 => intro u hu; simp at hu; subst hu; rfl
    case c4 => have := HM2.out; omega
    case c5 => have := HSW.out; simp <;> omega
    intro v' w3 hown' hgrow _
    have HO3 := Lib.hid hown'
    have HB3 := Lib.hid (grown_below (HBW.out.alloc HSW.out _) (HO.out.alloc _) (Nat.le_refl _) (by have := HSW.out; simp <;> omega) hgrow)
    clear hown' hgrow
    have htm := HTM.out
    go_wp2
    go_roundw
    case rel =>
     refine ⟨j + 1, by omega, by go_num, ?_, HB3.out⟩
     have := HO3.out
     rw [HTK.out]
     simpa [f64s, flagW] using this
    case measure => simp [intOf]; omega
   ·go_wp2_with (at_builtin; refine wpList_append_own _ rfl _ _ 22 rfl w.heap.size 42 i0 (.float .f64 0) 1 8 Tryz.underlying22 HI0.out.1 HI0.out.2.1 HI0.out.2.2.1 HI0.out.2.2.2 rfl (by decide) _ _ _ rfl (HO.out.alloc _) ⟨wr.heap.size, 0, none⟩ 1 1 [.float .f64 4607182418800017408] rfl rfl ?c1 ?c2 HM1.out ?c4 ?c5 ?_)
    case c1 =>
     intro j u hj
     match j, hj with
     | 0, hj => simp at hj; subst hj; simp [Addr.add]
    case c2 => intro u hu; simp at hu; subst hu; rfl
    case c4 => have := HM2.out; omega
    case c5 => have := HSW.out; simp <;> omega
    intro v' w3 hown' hgrow _
    have HO3 := Lib.hid hown'
    have HB3 := Lib.hid (grown_below (HBW.out.alloc HSW.out _) (HO.out.alloc _) (Nat.le_refl _) (by have := HSW.out; simp <;> omega) hgrow)
    clear hown' hgrow
    have htm := HTM.out
    go_wp2
    go_roundw
    case rel =>
     refine ⟨j + 1, by omega, by go_num, ?_, HB3.out⟩
     have := HO3.out
     rw [HTK.out]
     simpa [f64s, flagW] using this
    case measure => simp [intOf]; omega
  ·have hjT : T = j := by omega
   subst hjT
   obtain ⟨L, hL⟩ : ∃ L, b.take T = L := ⟨_, rfl⟩
   have HLL := Lib.hid (show L.length = T by rw [← hL, List.length_take]; have := HTB.out; omega)
   rw [hL] at HO
   obtain ⟨F, hF⟩ : ∃ F, L.map flagW = F := ⟨_, rfl⟩
   have HFL := Lib.hid (show F.length = T by rw [← hF, List.length_map, HLL.out])
   have HLN := Lib.hid (show ∀ x ∈ F, Num x by rw [← hF]; exact flags_num L)
   rw [hF] at HO
   have HLS := Lib.hid (show Slc wr (fun _ => True) u10 T (f64s F) from (Slc.owned HO.out).keep (Kept.refl _ _) (fun _ _ _ => trivial))
   clear hF
   obtain ⟨al, cl, rfl, _⟩ := HLS.out.opened
   obtain ⟨w1, rfl⟩ : ∃ w1, w1 = wr := ⟨_, rfl⟩
   obtain ⟨bk, hbk⟩ : ∃ bk, w1.heap.size = bk := ⟨_, rfl⟩
   have HBK := Lib.hid hbk
   have HTW := Lib.hid (show TabAt w1 from fun j hj => keep_below HBW.out _ _ (HT.out j hj))
   clear hbk
   go_wp2_with fail
   go_loopw [11, 14] (fun v i wr => ∃ j : Nat, j ≤ g.length ∧ i = .int .i64 j ∧ (∀ z ∈ g.take j, sm z = true) ∧ wr.ownsRow bk 42 1 v j (f64s ((g.take j).map (floatOfInt .f64))) ∧ Below w1.heap.size w1 wr) (fun _ i _ => g.length - (intOf i).toNat)
   case atStart => exact ⟨0, by omega, rfl, (fun z hz => by simp at hz), World.ownsRow_nil _ _ _ _, Below.refl _ _⟩
   case round =>
    obtain ⟨j, hj, rfl, hsm, hown, hB⟩ := hrel
    have HO := Lib.hid hown; have HK := Lib.hid hB; have HSM := Lib.hid hsm
    have HBX := Lib.hid (HBW.out.trans (hB.mono HBW.out.size))
    have HTX := Lib.hid (show TabAt wr from fun j hj => keep_below HK.out _ _ (HTW.out j hj))
    clear hown hB hsm; have hg6 := HLG.out
    by_cases hlt : j < g.length
    ·obtain ⟨b9, off, cap', x, e9, hx, hcx⟩ := Slc.at_map (Value.int .i64) HVG.out j hlt
     cases e9
     have hcx := keep_below HBX.out _ _ hcx
     have HXT := Lib.hid (show g.take (j + 1) = g.take j ++ [x] by
      obtain ⟨h9, e9⟩ := List.getElem?_eq_some_iff.1 hx
      rw [List.take_succ_eq_append_getElem h9, e9])
     clear hx
     obtain ⟨sx, hsx⟩ : ∃ sx, sm x = sx := ⟨_, rfl⟩
     have HSX := Lib.hid hsx
     cases sx
     ·clear hsx
      go_wp2_with ((with_reducible refine (small_calls x _).mono ?_); rintro e w' ⟨rfl, rfl⟩; rw [HSX.out])
      refine (awake14_calls _ HTX.out).mono ?_
      rintro e w' ⟨rfl, hB⟩
      have HB9 := Lib.hid (HBX.out.trans (hB.mono HBX.out.size))
      clear hB
      go_wp2_with fail
      go_ret
      exact ⟨rfl, HB9.out⟩
     ·have HSN := Lib.hid (show ∀ z ∈ g.take (j + 1), sm z = true by
       rw [HXT.out]; intro z hz
       rcases List.mem_append.1 hz with hz | hz
       ·exact HSM.out z hz
       ·rw [List.mem_singleton.1 hz]; exact hsx)
      have HM1 : Hid (j + 1 ≤ maxLen) := Lib.hid (by unfold maxLen; omega)
      have HSW := Lib.hid HK.out.size
      have HBQ := Lib.hid (show bk ≤ wr.heap.size by have := HSW.out; have := HBK.out; omega)
      clear hsx
      go_wp2_with (first | ((with_reducible refine (small_calls x _).mono ?_); rintro e w' ⟨rfl, rfl⟩; rw [HSX.out]) | (at_builtin; refine wpList_append_own _ rfl _ _ 22 rfl bk 42 i0 (.float .f64 0) 1 8 Tryz.underlying22 HI0.out.1 HI0.out.2.1 HI0.out.2.2.1 HI0.out.2.2.2 rfl (by decide) _ _ _ rfl (HO.out.alloc _) ⟨wr.heap.size, 0, none⟩ 1 1 [.float .f64 (floatOfInt .f64 x)] rfl rfl ?c1 ?c2 HM1.out ?c4 ?c5 ?_))
      case c1 =>
       intro j u hj
       match j, hj with
       | 0, hj => simp at hj; subst hj; simp [Addr.add]
      case c2 => intro u hu; simp at hu; subst hu; rfl
      case c4 => omega
      case c5 => have := HBQ.out; simp <;> omega
      intro v' w3 hown' hgrow _
      have HO3 := Lib.hid hown'
      have HB3 := Lib.hid (grown_below (HK.out.alloc HSW.out _) (HO.out.alloc _) (Nat.le_of_eq HBK.out) (by have := HSW.out; simp <;> omega) hgrow)
      clear hown' hgrow
      go_wp2
      go_roundw
      case rel =>
       refine ⟨j + 1, by omega, by go_num, HSN.out, ?_, HB3.out⟩
       have := HO3.out
       rw [HXT.out]
       simpa [f64s] using this
      case measure => simp [intOf]; omega
    ·have hjg : j = g.length := by omega
     obtain ⟨M, hM⟩ : ∃ M, g.map (floatOfInt .f64) = M := ⟨_, rfl⟩
     have HML := Lib.hid (show M.length = g.length by rw [← hM, List.length_map])
     rw [hjg, List.take_length] at HSM
     rw [hjg, List.take_length, hM] at HO
     have HMN := Lib.hid (show ∀ z ∈ M, Num z by rw [← hM]; intro z hz; obtain ⟨y, hy, rfl⟩ := List.mem_map.1 hz; exact num_ofInt y (HSM.out y hy))
     have HMS0 := Lib.hid (show Slc wr (fun _ => True) u11 g.length (f64s M) from (Slc.owned HO.out).keep (Kept.refl _ _) (fun _ _ _ => trivial))
     have HLS2 := Lib.hid (show Slc wr (fun _ => True) (.slice al T cl) F.length (f64s F) by rw [HFL.out]; exact HLS.out.below HK.out)
     clear hjg hM
     obtain ⟨am, cm, rfl, _⟩ := HMS0.out.opened
     have HMS := Lib.hid (show Slc wr (fun _ => True) (.slice am g.length cm) M.length (f64s M) by rw [HML.out]; exact HMS0.out)
     have HMF := Lib.hid (show ∀ z ∈ M, Fnt z from fun z hz => (HMN.out z hz).1)
     have HLF := Lib.hid (show ∀ z ∈ F, Fnt z from fun z hz => (HLN.out z hz).1)
     have HFE := Lib.hid (map_ze HLN.out)
     have HME := Lib.hid (map_ze HMN.out)
     have HQK := Lib.hid (show F.length = Q * kk * 1 by rw [HFL.out, Nat.mul_one, HTQ.out])
     have HGK := Lib.hid (show M.length = 1 * g.length * 1 by rw [HML.out]; omega)
     have HTM := Lib.hid (show T ≤ 300 by have := HTB.out; have := HLB.out; omega)
     go_wp2_with fail
     have htm := HTM.out
     refine (kept14_yes _ F 1 _ HLS2.out (by rw [HFL.out]; omega) HLF.out HTX.out).mono ?_
     rintro e W11 ⟨uv, V, rfl, hu, hk, hB⟩
     replace HBX := cb hB HBX; replace HTX := HTX.go hB; replace HMS := HMS.go hB; replace HLS2 := HLS2.go hB; have HUV := Lib.hid (IsV.any hu)
     have HKV := Lib.hid (show KepK F V from hk _ (congrArg some HFE.out))
     have hsuv := hu.store; clear hu hk; clear hB
     obtain ⟨W12, hWn, hB, hNB⟩ := ahd1 W11 (uv) 25
     replace HBX := cb hB HBX; replace HTX := HTX.go hB; replace HMS := HMS.go hB; replace HLS2 := HLS2.go hB; replace HUV := HUV.go hB; have HVV := Lib.hid hNB; clear hNB hB; have cHVV0 := HVV.out.2.1
     go_wp2_with fail
     clear hWn
     refine (kept14_yes _ M 3 _ HMS.out (by rw [HML.out]; omega) HMF.out HTX.out).mono ?_
     rintro e W13 ⟨uw, W, rfl, hu, hk, hB⟩
     clear cHVV0; replace HBX := cb hB HBX; replace HTX := HTX.go hB; replace HMS := HMS.go hB; replace HLS2 := HLS2.go hB; replace HUV := HUV.go hB; replace HVV := HVV.go hB; have HUW := Lib.hid (IsV.any hu)
     have HKW := Lib.hid (show KepK M W from hk _ (congrArg some HME.out))
     have hsuw := hu.store; clear hu hk; clear hB
     obtain ⟨W14, hWn, hB, hNB⟩ := ahd1 W13 (uw) 25
     replace HBX := cb hB HBX; replace HTX := HTX.go hB; replace HMS := HMS.go hB; replace HLS2 := HLS2.go hB; replace HUV := HUV.go hB; replace HVV := HVV.go hB; replace HUW := HUW.go hB; have HWW := Lib.hid hNB; clear hNB hB; have cHVV0 := HVV.out.2.1; have cHWW0 := HWW.out.2.1
     go_wp2_with fail
     clear hWn
     have HM1 := Lib.hid (sc_nums (f := f) (outer := Q) (n := kk) (inner := 1) HKV.out HQK.out)
     have HM2 := Lib.hid (sc_nums (f := f) (outer := 1) (n := g.length) (inner := 1) HKW.out HGK.out)
     obtain ⟨E1, hE1⟩ : ∃ E, rsE f F Q kk 1 = E := ⟨_, rfl⟩
     obtain ⟨E2, hE2⟩ : ∃ E, rsE f M 1 g.length 1 = E := ⟨_, rfl⟩
     have HE1 := Lib.hid hE1; have HE2 := Lib.hid hE2
     have he1 : (E1 != E1) = false := by simp
     have he2 : (E2 != E2) = false := by simp
     clear hE1 hE2
     have hqt : IntKind.i64.wrap ((T : Int) / (kk : Int)) = (Q : Int) := by
      rw [show ((T : Int) / (kk : Int)) = ((Q : Nat) : Int) by rw [← HTQ.out]; have := HKP.out; rw [Int.natCast_mul]; exact Int.mul_ediv_cancel _ (by omega)]; exact IntWalk.i64_in _ (by have := HQM.out; omega)
     have hqt2 : IntKind.i64.wrap ((T : Int).tdiv (kk : Int)) = (Q : Int) := by
      rw [Int.tdiv_eq_ediv_of_nonneg (by omega)]; exact hqt
     have hkz : (kk = 0) = False := eq_false (by have := HKP.out; omega)
     clear cHVV0 cHWW0
     obtain ⟨V2, hV2⟩ : ∃ V2, V2 = scV f V Q kk 1 := ⟨_, rfl⟩
     have HV2 := Lib.hid hV2
     have HCL := Lib.hid (show V2.cls ≠ 2 by rw [hV2]; exact scV_cls HKV.out HQK.out)
     clear hV2
     refine wp_mid (fun s0 s1 w' => ∃ (u1 : Value) (r1 : Nat), s1 = (((((((((((((s0.put (some 92) (.int .i64 f)).put (some 93) (.agg #[uv])).put (some 94) (.slice al T cl)).put (some 95) (.int .i64 (T : Int))).put (some 96) (.int .i64 (kk : Int))).put (some 97) (.int .i64 (Q : Int))).put (some 98) (.int .i64 (kk : Int))).put (some 99) (.tuple #[.agg #[u1], .int .i64 E1])).put (some 91) (.tuple #[.agg #[u1], .int .i64 E1])).put (some 100) (.agg #[u1])).put (some 101) (.int .i64 E1)).put (some 19) (.pointer (some ⟨r1, 0, none⟩))).put (some 20) (.int .i64 E1)) ∧ IsV w' (fun _ => True) u1 V2 ∧ At1 w' r1 u1 ∧ Below W14.heap.size W14 w') ?_ ?_
     ·have HW0 := Lib.hid (Below.refl W14.heap.size W14)
      have HL0 := Lib.hid (IsV.lts HUV.out)
      have HVVS := HVV
      obtain ⟨W15, hWD, hB⟩ := drwn W14
      replace HTX := HTX.go hB; replace HVV := HVV.go hB; replace HW0 := cb hB HW0; replace HL0 := HL0.go hB; clear hB
      refine rgn (S := fun w' => w'.cell? ⟨W11.heap.size, 0, none⟩ = some (uv)) hWD HVV.out.2.1 (fun hHeld => ?_)
      clear hWD; apply tm 0; apply tm 1; apply tm 2; apply tm 3; apply tm 4; apply tm 5; apply tm 6
      refine wpAnyH_ready (rs := [7, 11]) (by kernel_rfl) (by simp) ?_
      refine AllReadyH.cons (o := _) rfl (fun K hK => ?_) ?_
      ·clear hHeld; go_simp
       try rw [hqt]
       refine (scscan1_at f _ V Q kk 1 _ _ _ _ rfl rfl rfl HL0.out HKV.out.1.1 HKV.out.1.2.1 (by rw [HKV.out.1.2.2.2.2]; exact HQK.out) (by have := HK100.out; omega) (by decide) (by have := HQM.out; omega) rfl HTX.out).mono ?_
       rintro e W16 ⟨u1, rfl, hu, hB⟩
       replace HTX := HTX.go hB; replace HVV := HVV.go hB; replace HW0 := cb hB HW0; replace HL0 := HL0.go hB
       rw [HM1.out.1, HE1.out]
       rw [← HV2.out] at hu
       have HX := Lib.hid hu; have hs1 := hu.store; clear hu; clear hB
       refine hK.out _ _ HVV.out.2.1 (fun hHeld => ?_)
       clear hK K; apply tm 8; apply tm 9; apply tm 10
       apply rdy 11; intro K hK; clear hHeld; go_simp
       obtain ⟨W17, hWn, hB, hNB⟩ := ahd1 W16 .nilIface 25
       have hbk : W14.heap.size ≤ W16.heap.size := HW0.out.size
       rw [hWn]; clear hWn
       obtain ⟨r1, hnm⟩ : ∃ x, W16.heap.size = x := ⟨_, rfl⟩
       rw [hnm] at hNB hbk ⊢
       replace HTX := HTX.go hB; replace HVV := HVV.go hB; replace HW0 := cb hB HW0; replace HL0 := HL0.go hB; replace HX := HX.go hB; have HRV := Lib.hid hNB; have HBK9 := Lib.hid hbk; clear hNB hB hnm hbk
       refine hK.out _ _ HVV.out.2.1 (fun hHeld => ?_)
       clear hK K
       apply rdy 12; intro K hK; clear hHeld; have s0 := HRV.out.2.1; have t0 := HRV.out.2.2 0; go_simp; clear s0 t0
       obtain ⟨W18, hWn⟩ : ∃ xw9, W17.setCell ⟨r1, 0, none⟩ u1 = xw9 := ⟨_, rfl⟩
       rw [hWn]
       have HY := Lib.hid (show IsV W18 (fun _ => True) u1 V2 by rw [← hWn]; exact HX.out.iface_set HCL.out HRV.out.2.1 (.inl rfl) _)
       replace HW0 := Lib.hid (show Below W14.heap.size W14 W18 by rw [← hWn]; exact HW0.out.setCell HBK9.out _)
       replace HVV := Lib.hid (HVVS.out.below HW0.out)
       replace HRV := Lib.hid (show At1 W18 r1 u1 by rw [← hWn]; exact At1.put1G HRV.out _)
       clear hWn
       refine hK.out _ _ HVV.out.2.1 (fun hHeld => ?_)
       clear hK K; apply tm 13
       refine wpAnyH_done (by kernel_rfl) ?_ _
       clear hHeld
       refine ⟨rfl, u1, r1, ?_, HY.out, HRV.out, HW0.out⟩
       try simp only [Act.put, List.setIfInBounds_toArray, List.set_cons_zero, List.set_cons_succ]
       all_goals first | rfl | kernel_rfl
      refine AllReadyH.cons (o := _) rfl (fun K hK => ?_) ?_
      ·clear hHeld; go_simp
       obtain ⟨W16, hWn, hB, hNB⟩ := ahd1 W15 .nilIface 25
       have hbk : W14.heap.size ≤ W15.heap.size := HW0.out.size
       rw [hWn]; clear hWn
       obtain ⟨r1, hnm⟩ : ∃ x, W15.heap.size = x := ⟨_, rfl⟩
       rw [hnm] at hNB hbk ⊢
       replace HTX := HTX.go hB; replace HVV := HVV.go hB; replace HW0 := cb hB HW0; replace HL0 := HL0.go hB; have HRV := Lib.hid hNB; have HBK9 := Lib.hid hbk; clear hNB hB hnm hbk
       refine hK.out _ _ HVV.out.2.1 (fun hHeld => ?_)
       clear hK K
       apply rdy 7; intro K hK; clear hHeld; go_simp
       try rw [hqt]
       refine (scscan1_at f _ V Q kk 1 _ _ _ _ rfl rfl rfl HL0.out HKV.out.1.1 HKV.out.1.2.1 (by rw [HKV.out.1.2.2.2.2]; exact HQK.out) (by have := HK100.out; omega) (by decide) (by have := HQM.out; omega) rfl HTX.out).mono ?_
       rintro e W17 ⟨u1, rfl, hu, hB⟩
       replace HTX := HTX.go hB; replace HVV := HVV.go hB; replace HW0 := cb hB HW0; replace HL0 := HL0.go hB; replace HRV := HRV.go hB
       rw [HM1.out.1, HE1.out]
       rw [← HV2.out] at hu
       have HX := Lib.hid hu; have hs1 := hu.store; clear hu; clear hB
       refine hK.out _ _ HVV.out.2.1 (fun hHeld => ?_)
       clear hK K; apply tm 8; apply tm 9; apply tm 10
       apply rdy 12; intro K hK; clear hHeld; have s0 := HRV.out.2.1; have t0 := HRV.out.2.2 0; go_simp; clear s0 t0
       obtain ⟨W18, hWn⟩ : ∃ xw9, W17.setCell ⟨r1, 0, none⟩ u1 = xw9 := ⟨_, rfl⟩
       rw [hWn]
       have HY := Lib.hid (show IsV W18 (fun _ => True) u1 V2 by rw [← hWn]; exact HX.out.iface_set HCL.out HRV.out.2.1 (.inl rfl) _)
       replace HW0 := Lib.hid (show Below W14.heap.size W14 W18 by rw [← hWn]; exact HW0.out.setCell HBK9.out _)
       replace HVV := Lib.hid (HVVS.out.below HW0.out)
       replace HRV := Lib.hid (show At1 W18 r1 u1 by rw [← hWn]; exact At1.put1G HRV.out _)
       clear hWn
       refine hK.out _ _ HVV.out.2.1 (fun hHeld => ?_)
       clear hK K; apply tm 13
       refine wpAnyH_done (by kernel_rfl) ?_ _
       clear hHeld
       refine ⟨rfl, u1, r1, ?_, HY.out, HRV.out, HW0.out⟩
       try simp only [Act.put, List.setIfInBounds_toArray, List.set_cons_zero, List.set_cons_succ]
       all_goals first | rfl | kernel_rfl
      exact AllReadyH.nil
     rintro _ wm1 ⟨u1, r1, rfl, hU, hA, hB⟩
     have HU1 := Lib.hid hU; have HAU1 := Lib.hid hA; have hs1 := hU.store; clear hU hA; replace HBX := cb hB HBX; replace HTX := HTX.go hB; replace HMS := HMS.go hB; replace HLS2 := HLS2.go hB; replace HUV := HUV.go hB; replace HVV := HVV.go hB; replace HUW := HUW.go hB; replace HWW := HWW.go hB; clear hB
     simp only [Act.put, List.setIfInBounds_toArray, List.set_cons_zero, List.set_cons_succ]
     have cHVV0 := HVV.out.2.1; have cHWW0 := HWW.out.2.1; have cHAU10 := HAU1.out.2.1
     go_wp2_with fail
     refine (rsscan_at f _ F Q kk 1 _ _ _ _ rfl rfl rfl HLS2.out HQK.out (by rw [HFL.out]; have := HTM.out; have := HLG.out; omega) HLN.out (by have := HK100.out; have := HLG.out; omega) (by decide) (by have := HQM.out; omega)).mono ?_
     rintro e W15 ⟨vq, rfl, hvq, hB⟩
     clear cHVV0 cHWW0 cHAU10; replace HBX := cb hB HBX; replace HTX := HTX.go hB; replace HMS := HMS.go hB; replace HLS2 := HLS2.go hB; replace HUV := HUV.go hB; replace HVV := HVV.go hB; replace HUW := HUW.go hB; replace HWW := HWW.go hB; replace HU1 := HU1.go hB; replace HAU1 := HAU1.go hB; rw [HE1.out]; have Hvq := Lib.hid hvq.any; clear hvq; clear hB; have cHVV0 := HVV.out.2.1; have cHWW0 := HWW.out.2.1
     have cHAU10 := HAU1.out.2.1
     go_wp2_with fail
     obtain ⟨V3, hV3⟩ : ∃ V3, V3 = scV f W 1 g.length 1 := ⟨_, rfl⟩
     have HV3 := Lib.hid hV3; clear hV3
     refine (scscan1_at f _ W 1 g.length 1 _ _ _ _ rfl rfl rfl HUW.out HKW.out.1.1 HKW.out.1.2.1 (by rw [HKW.out.1.2.2.2.2]; exact HGK.out) (by have := HLG.out; omega) (by decide) (by decide) rfl HTX.out).mono ?_
     rintro e W16 ⟨u2, rfl, hu2, hB⟩
     clear cHVV0 cHWW0 cHAU10; replace HBX := cb hB HBX; replace HTX := HTX.go hB; replace HMS := HMS.go hB; replace HLS2 := HLS2.go hB; replace HUV := HUV.go hB; replace HVV := HVV.go hB; replace HUW := HUW.go hB; replace HWW := HWW.go hB; replace HU1 := HU1.go hB; replace HAU1 := HAU1.go hB; replace Hvq := Hvq.go hB
     rw [HM2.out.1, HE2.out]
     rw [← HV3.out] at hu2
     have HU2 := Lib.hid (IsV.any hu2); have hs2 := HU2.out.store; clear hu2; clear hB
     obtain ⟨W17, hWn, hB, hNB⟩ := ahd1 W16 (u2) 25
     replace HBX := cb hB HBX; replace HTX := HTX.go hB; replace HMS := HMS.go hB; replace HLS2 := HLS2.go hB; replace HUV := HUV.go hB; replace HVV := HVV.go hB; replace HUW := HUW.go hB; replace HWW := HWW.go hB; replace HU1 := HU1.go hB; replace HAU1 := HAU1.go hB; replace Hvq := Hvq.go hB; replace HU2 := HU2.go hB; have HAU2 := Lib.hid hNB; clear hNB hB; have cHVV0 := HVV.out.2.1; have cHWW0 := HWW.out.2.1
     have cHAU10 := HAU1.out.2.1; have cHAU20 := HAU2.out.2.1
     go_wp2_with fail
     clear hWn
     refine (rsscan_at f _ M 1 g.length 1 _ _ _ _ rfl rfl rfl HMS.out HGK.out (by rw [HML.out]; have := HTM.out; have := HLG.out; omega) HMN.out (by have := HK100.out; have := HLG.out; omega) (by decide) (by have := HQM.out; omega)).mono ?_
     rintro e W18 ⟨vs, rfl, hvs, hB⟩
     clear cHVV0 cHWW0 cHAU10 cHAU20; replace HBX := cb hB HBX; replace HTX := HTX.go hB; replace HMS := HMS.go hB; replace HLS2 := HLS2.go hB; replace HUV := HUV.go hB; replace HVV := HVV.go hB; replace HUW := HUW.go hB; replace HWW := HWW.go hB; replace HU1 := HU1.go hB; replace HAU1 := HAU1.go hB; replace Hvq := Hvq.go hB; replace HU2 := HU2.go hB; replace HAU2 := HAU2.go hB; rw [HE2.out]; have Hvs := Lib.hid hvs.any
     clear hvs; clear hB; have cHVV0 := HVV.out.2.1; have cHWW0 := HWW.out.2.1; have cHAU10 := HAU1.out.2.1; have cHAU20 := HAU2.out.2.1
     go_wp2_with fail
     refine (vnums_calls _ V2 _ HU1.out (by rw [HV2.out]; exact HM1.out.2.2.1) HTX.out).mono ?_
     rintro e W19 ⟨vx, rfl, hvx, hB⟩
     clear cHVV0 cHWW0 cHAU10 cHAU20; replace HBX := cb hB HBX; replace HTX := HTX.go hB; replace HMS := HMS.go hB; replace HLS2 := HLS2.go hB; replace HUV := HUV.go hB; replace HVV := HVV.go hB; replace HUW := HUW.go hB; replace HWW := HWW.go hB; replace HU1 := HU1.go hB; replace HAU1 := HAU1.go hB; replace Hvq := Hvq.go hB; replace HU2 := HU2.go hB; replace HAU2 := HAU2.go hB; replace Hvs := Hvs.go hB
     rw [HV2.out, HM1.out.2.1] at hvx
     have Hvx := Lib.hid hvx.any; clear hvx; clear hB; have cHVV0 := HVV.out.2.1; have cHWW0 := HWW.out.2.1; have cHAU10 := HAU1.out.2.1; have cHAU20 := HAU2.out.2.1
     go_wp2_with fail
     refine (floats_same _ _ (rsL f F Q kk 1) _ Hvx.out Hvq.out HM1.out.2.2.2.2 HM1.out.2.2.2.1).mono ?_
     rintro e W20 ⟨rfl, hB⟩
     clear cHVV0 cHWW0 cHAU10 cHAU20; replace HBX := cb hB HBX; replace HTX := HTX.go hB; replace HMS := HMS.go hB; replace HLS2 := HLS2.go hB; replace HUV := HUV.go hB; replace HVV := HVV.go hB; replace HUW := HUW.go hB; replace HWW := HWW.go hB; replace HU1 := HU1.go hB; replace HAU1 := HAU1.go hB; replace Hvq := Hvq.go hB; replace HU2 := HU2.go hB; replace HAU2 := HAU2.go hB; replace Hvs := Hvs.go hB
     replace Hvx := Hvx.go hB; clear hB; have cHVV0 := HVV.out.2.1; have cHWW0 := HWW.out.2.1; have cHAU10 := HAU1.out.2.1; have cHAU20 := HAU2.out.2.1
     go_wp2_with fail
     refine (vnums_calls _ V3 _ HU2.out (by rw [HV3.out]; exact HM2.out.2.2.1) HTX.out).mono ?_
     rintro e W21 ⟨vy, rfl, hvy, hB⟩
     clear cHVV0 cHWW0 cHAU10 cHAU20; replace HBX := cb hB HBX; replace HTX := HTX.go hB; replace HMS := HMS.go hB; replace HLS2 := HLS2.go hB; replace HUV := HUV.go hB; replace HVV := HVV.go hB; replace HUW := HUW.go hB; replace HWW := HWW.go hB; replace HU1 := HU1.go hB; replace HAU1 := HAU1.go hB; replace Hvq := Hvq.go hB; replace HU2 := HU2.go hB; replace HAU2 := HAU2.go hB; replace Hvs := Hvs.go hB
     replace Hvx := Hvx.go hB
     rw [HV3.out, HM2.out.2.1] at hvy
     have Hvy := Lib.hid hvy.any; clear hvy; clear hB; have cHVV0 := HVV.out.2.1; have cHWW0 := HWW.out.2.1; have cHAU10 := HAU1.out.2.1; have cHAU20 := HAU2.out.2.1
     go_wp2_with fail
     refine (floats_same _ _ (rsL f M 1 g.length 1) _ Hvy.out Hvs.out HM2.out.2.2.2.2 HM2.out.2.2.2.1).mono ?_
     rintro e W22 ⟨rfl, hB⟩
     clear cHVV0 cHWW0 cHAU10 cHAU20; replace HBX := cb hB HBX; replace HTX := HTX.go hB; replace HMS := HMS.go hB; replace HLS2 := HLS2.go hB; replace HUV := HUV.go hB; replace HVV := HVV.go hB; replace HUW := HUW.go hB; replace HWW := HWW.go hB; replace HU1 := HU1.go hB; replace HAU1 := HAU1.go hB; replace Hvq := Hvq.go hB; replace HU2 := HU2.go hB; replace HAU2 := HAU2.go hB; replace Hvs := Hvs.go hB
     replace Hvx := Hvx.go hB; replace Hvy := Hvy.go hB; clear hB; have cHVV0 := HVV.out.2.1; have cHWW0 := HWW.out.2.1; have cHAU10 := HAU1.out.2.1; have cHAU20 := HAU2.out.2.1
     go_wp2_with fail
     have HM3 := Lib.hid (fo_nums (f := f) (outer := 1) (n := g.length) (inner := 1) HKW.out HGK.out (by decide))
     obtain ⟨E3, hE3⟩ : ∃ E, rfE f M 1 g.length 1 = E := ⟨_, rfl⟩
     have HE3 := Lib.hid hE3
     obtain ⟨V4, hV4⟩ : ∃ V4, V4 = foV f W 1 g.length 1 := ⟨_, rfl⟩
     have HV4 := Lib.hid hV4; clear hE3 hV4
     refine (fofold1_at f _ W 1 g.length 1 _ _ _ _ rfl rfl rfl HUW.out HKW.out.1.1 HKW.out.1.2.1 (by rw [HKW.out.1.2.2.2.2]; exact HGK.out) (by have := HLG.out; omega) (by decide) (by decide) (by decide) rfl (by have := HLG.out; omega) HTX.out).mono ?_
     rintro e W23 ⟨u3, rfl, hu3, hB⟩
     clear cHVV0 cHWW0 cHAU10 cHAU20; replace HBX := cb hB HBX; replace HTX := HTX.go hB; replace HMS := HMS.go hB; replace HLS2 := HLS2.go hB; replace HUV := HUV.go hB; replace HVV := HVV.go hB; replace HUW := HUW.go hB; replace HWW := HWW.go hB; replace HU1 := HU1.go hB; replace HAU1 := HAU1.go hB; replace Hvq := Hvq.go hB; replace HU2 := HU2.go hB; replace HAU2 := HAU2.go hB; replace Hvs := Hvs.go hB
     replace Hvx := Hvx.go hB; replace Hvy := Hvy.go hB
     rw [HM3.out.1, HE3.out]
     rw [← HV4.out] at hu3
     have HU3 := Lib.hid (IsV.any hu3); have hs3 := HU3.out.store; clear hu3; clear hB
     obtain ⟨W24, hWn, hB, hNB⟩ := ahd1 W23 (u3) 25
     replace HBX := cb hB HBX; replace HTX := HTX.go hB; replace HMS := HMS.go hB; replace HLS2 := HLS2.go hB; replace HUV := HUV.go hB; replace HVV := HVV.go hB; replace HUW := HUW.go hB; replace HWW := HWW.go hB; replace HU1 := HU1.go hB; replace HAU1 := HAU1.go hB; replace Hvq := Hvq.go hB; replace HU2 := HU2.go hB; replace HAU2 := HAU2.go hB; replace Hvs := Hvs.go hB; replace Hvx := Hvx.go hB
     replace Hvy := Hvy.go hB; replace HU3 := HU3.go hB; have HAU3 := Lib.hid hNB; clear hNB hB
     by_cases hg0 : g.length = 0
     ·have hb0 : ((g.length : Int) == 0) = true := by rw [hg0]; rfl
      clear hg0; have cHVV0 := HVV.out.2.1; have cHWW0 := HWW.out.2.1; have cHAU10 := HAU1.out.2.1; have cHAU20 := HAU2.out.2.1; have cHAU30 := HAU3.out.2.1
      go_wp2_with fail
      clear hWn; clear cHVV0 cHWW0 cHAU10 cHAU20 cHAU30
      have HAW := Lib.hid (show ∀ wx, Below W24.heap.size W24 wx → Calls Tryz.prog 6 #[] wx fun e w' => e = .returned (.bool true) ∧ Below wx.heap.size wx w' from fun wx hx => awake14_calls wx (fun j hj => keep_below hx _ _ (HTX.out j hj)))
      refine region_grow W24 (by kernel_rfl) (by kernel_rfl) (Below.refl _ _) ?_
      intro Ω _ WW hW hI
      have HW' := Lib.hid hW
      have HI' := Lib.hid hI
      have q3 := fun y => (HAU3.out.below (hW y)).2.1
      have q2 := fun y => (HAU2.out.below (hW y)).2.1
      clear hW hI
      repeat (go_big_quiet_step ((go_at_call 6; exact Calls.quiet_grow HW'.out HI'.out (HAW.out _ (HW'.out _)))))
      refine wpQuiet_nil ?_
      rintro w3 ⟨yy, rfl⟩
      clear q3 q2
      go_wp2
      go_ret
      exact ⟨rfl, HBX.out.trans ((HW'.out yy).mono HBX.out.size)⟩
     have hb0 : ((g.length : Int) == 0) = false := by rw [beq_eq_false_iff_ne]; omega
     by_cases hE0 : E2 = 0
     rotate_left
     ·have hb1 : (E2 != 0) = true := by simp [hE0]
      clear hE0 hg0; have cHVV0 := HVV.out.2.1; have cHWW0 := HWW.out.2.1; have cHAU10 := HAU1.out.2.1; have cHAU20 := HAU2.out.2.1; have cHAU30 := HAU3.out.2.1
      go_wp2_with fail
      clear hWn; clear cHVV0 cHWW0 cHAU10 cHAU20 cHAU30
      have HAW := Lib.hid (show ∀ wx, Below W24.heap.size W24 wx → Calls Tryz.prog 6 #[] wx fun e w' => e = .returned (.bool true) ∧ Below wx.heap.size wx w' from fun wx hx => awake14_calls wx (fun j hj => keep_below hx _ _ (HTX.out j hj)))
      refine region_grow W24 (by kernel_rfl) (by kernel_rfl) (Below.refl _ _) ?_
      intro Ω _ WW hW hI
      have HW' := Lib.hid hW
      have HI' := Lib.hid hI
      have q3 := fun y => (HAU3.out.below (hW y)).2.1
      have q2 := fun y => (HAU2.out.below (hW y)).2.1
      clear hW hI
      repeat (go_big_quiet_step ((go_at_call 6; exact Calls.quiet_grow HW'.out HI'.out (HAW.out _ (HW'.out _)))))
      refine wpQuiet_nil ?_
      rintro w3 ⟨yy, rfl⟩
      clear q3 q2
      go_wp2
      go_ret
      exact ⟨rfl, HBX.out.trans ((HW'.out yy).mono HBX.out.size)⟩
     ·obtain ⟨N1, hN1⟩ : ∃ N1, g.length = N1 + 1 := ⟨g.length - 1, by omega⟩
      have hfk : fknown f = true := by
       cases hk9 : fknown f with
       | true => rfl
       | false =>
        have h9 := rsE_1 (l := M) (outer := 1) (n := g.length) (inner := 1) hk9
        rw [HE2.out, hE0] at h9
        exact absurd h9 (by decide)
      obtain ⟨c1, c2, c3⟩ := scan_last (l := M) hfk (show 0 < g.length by omega) (by rw [HE2.out, hE0])
      have hE3 : E3 = 0 := by rw [← HE3.out]; exact c1
      obtain ⟨xl, hxl⟩ : ∃ xl, (rowN f (lineG 0 M g.length 1 0 0)).1 = xl := ⟨_, rfl⟩
      rw [hxl] at c2 c3
      have HXN := Lib.hid (show Num xl by rw [← hxl]; exact rowN_num (lineG_num HMN.out))
      have HNA := Lib.hid (show atI V4.nums 0 0 = xl by rw [HV4.out, HM3.out.2.1, c2]; rfl)
      have HNB := Lib.hid (show atI V3.nums 0 (N1 : Int) = xl by
       rw [HV3.out, HM2.out.2.1]
       rw [hN1, Nat.add_sub_cancel] at c3
       unfold atI
       rw [if_pos (by omega), Int.toNat_natCast, hN1, List.getD_eq_getElem?_getD, c3]; rfl)
      have hN1i : ((g.length : Int) - 1) = (N1 : Int) := by omega
      have hN1w : IntKind.i64.wrap ((g.length : Int) - 1) = (N1 : Int) := by rw [hN1i]; exact IntWalk.i64_in _ (by have := HLG.out; omega)
      have hN1n : ((g.length - 1 : Nat) : Int) = (N1 : Int) := by omega
      have hb1 : ((0 : Int) != 0) = false := rfl
      have hgl := HLG.out
      subst hE0 hE3
      clear c1 c2 c3 hxl hN1 hg0; have cHVV0 := HVV.out.2.1; have cHWW0 := HWW.out.2.1; have cHAU10 := HAU1.out.2.1; have cHAU20 := HAU2.out.2.1; have cHAU30 := HAU3.out.2.1
      go_wp2_with fail
      clear hWn; clear cHVV0 cHWW0 cHAU10 cHAU20 cHAU30
      have HN1 := Lib.hid (show ∀ wx, Below W24.heap.size W24 wx → Calls Tryz.prog 18 #[.agg #[u3], .int .i64 0] wx fun e w' => e = .returned (.float .f64 xl) ∧ Below wx.heap.size wx w' from fun wx hx => by
       have := num_calls u3 V4 0 wx (HU3.out.grow hx)
       rwa [HNA.out] at this)
      have HN2 := Lib.hid (show ∀ wx, Below W24.heap.size W24 wx → Calls Tryz.prog 18 #[.agg #[u2], .int .i64 (N1 : Int)] wx fun e w' => e = .returned (.float .f64 xl) ∧ Below wx.heap.size wx w' from fun wx hx => by
       have := num_calls u2 V3 (N1 : Int) wx (HU2.out.grow hx)
       rwa [HNB.out] at this)
      have HAW := Lib.hid (show ∀ wx, Below W24.heap.size W24 wx → Calls Tryz.prog 6 #[] wx fun e w' => e = .returned (.bool true) ∧ Below wx.heap.size wx w' from fun wx hx => awake14_calls wx (fun j hj => keep_below hx _ _ (HTX.out j hj)))
      refine region_grow W24 (by kernel_rfl) (by kernel_rfl) (Below.refl _ _) ?_
      intro Ω _ WW hW hI
      have HW' := Lib.hid hW
      have HI' := Lib.hid hI
      have q3 := fun y => (HAU3.out.below (hW y)).2.1
      have q2 := fun y => (HAU2.out.below (hW y)).2.1
      clear hW hI
      repeat (go_big_quiet_step ((first | (go_at_call 18; with_reducible exact Calls.quiet_grow HW'.out HI'.out (HN2.out _ (HW'.out _))) | (go_at_call 18; with_reducible exact Calls.quiet_grow HW'.out HI'.out (HN1.out _ (HW'.out _))) | (go_at_call 17; exact Calls.quiet_grow HW'.out HI'.out (Calls.grow_same (bits_same xl _ HXN.out))) | (go_at_call 6; exact Calls.quiet_grow HW'.out HI'.out (HAW.out _ (HW'.out _))))))
      refine wpQuiet_nil ?_
      rintro w3 ⟨yy, rfl⟩
      clear q3 q2
      go_wp2
      go_ret
      exact ⟨rfl, HBX.out.trans ((HW'.out yy).mono HBX.out.size)⟩

theorem scanLong_frame (w : World) (f : Int) (_ : (Lit.int .i64 f).wf = true) (vb : Value) (b : List Bool) (hb : RowC w vb (b.map Value.bool)) (hlb : b.length ≤ maxLen) (n : Int) (hn : (Lit.int .u8 n).wf = true) (vg : Value) (g : List Int) (hg : RowC w vg (g.map (Value.int .i64))) (hgw : ∀ z ∈ g, (Lit.int .i64 z).wf = true) (hlg : g.length ≤ maxLen) (hT : TabAt w) :
  Calls Tryz.prog 4 #[.int .i64 f, vb, .int .u8 n, vg] w fun e w' => e = .returned (.bool true) ∧ Below w.heap.size w w' := by
 have h9 : 0 ≤ n ∧ n ≤ 255 := wf_u8f hn
 obtain ⟨k, rfl⟩ : ∃ k : Nat, n = k := ⟨n.toNat, by omega⟩
 exact scanLong_walk f vb b k vg g w (by have := hb.slc; rw [List.length_map] at this; exact this) (by have := hg.slc; rw [List.length_map] at this; exact this) hgw hlb hlg (by omega) hT
end Go.Proofs.YtbacchbcanlciaaGreatDoor
