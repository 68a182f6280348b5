/- trouble.Text over a chain; the Error of a Call. -/
import Derived.Test.YtnionifbhmfkoaaDoorTrI
import Derived.Test.YtnionifbhmfkoaaDoorTrH
namespace Go.Proofs.YtnionifbhmfkoaaDoor
open Go.RowKit Go.Extern.Stop Go.Stop Go.Extern
set_option maxRecDepth 100000

/-- u is the class c alone or a trouble of it, that came through the functions ns. -/
def ChainX (w : World) (c : Int) (bt : Nat) : List ByteArray → Value → Prop
  | [], u => ∃ k, k ≤ 1 ∧ Link w c bt k u
  | n :: ns, u => ∃ (b : Nat) (x : Value), u = .iface 42 (.pointer (some ⟨b, 0, none⟩)) ∧ w.cell? ⟨b, 0, none⟩ = some (.string n) ∧ w.cell? ⟨b, 1, none⟩ = some x ∧ ChainX w c bt ns x
theorem Chain.x {w : World} {c a : Int} {bt : Nat} : ∀ ns u, Chain w c a bt ns u → ChainX w c bt ns u
  | [], _, h => ⟨1, Nat.le_refl _, h.1, h.2.1⟩
  | _ :: ns, _, ⟨b, x, h1, h2, h3, h4⟩ => ⟨b, x, h1, h2, h3, Chain.x ns x h4⟩
theorem ChainX.keep {w w' : World} {c : Int} {bt : Nat} (hk : ∀ a v, w.cell? a = some v → w'.cell? a = some v) : ∀ ns u, ChainX w c bt ns u → ChainX w' c bt ns u
  | [], _, ⟨k, h1, h2⟩ => ⟨k, h1, h2.keep hk⟩
  | _ :: ns, _, ⟨b, x, h1, h2, h3, h4⟩ => ⟨b, x, h1, hk _ _ h2, hk _ _ h3, ChainX.keep hk ns x h4⟩
theorem ChainX.ne_nil {w : World} {c : Int} {bt : Nat} : ∀ ns u, ChainX w c bt ns u → ∃ t v, u = .iface t v
  | [], _, ⟨_, _, h⟩ => h.ne_nil
  | _ :: _, _, ⟨_, _, h1, _⟩ => ⟨_, _, h1⟩
theorem Below.grownNone {w w' : World} (h : Below w.heap.size w w') : w.grownBy w' none := ⟨h.os, h.tape, h.output, h.size, fun k hk _ => h.block k hk⟩
theorem builder_below {B b : Nat} {bs : List Value} {w w' : World} (hb : Below w.heap.size w w') (h : Lib.IsBuilder 66 5 B b bs w) : Lib.IsBuilder 66 5 B b bs w' := by
  have one : ∀ p, Lib.BuilderAt 66 5 B b p bs w → Lib.BuilderAt 66 5 B b p bs w' := by
    rintro p ⟨h1, v, h2, h3, h4⟩
    have hlt := (Array.getElem?_eq_some_iff.1 h2).1
    exact ⟨h1, v, (hb.block b hlt).trans h2, h3.kept (Below.grownNone hb) (by cases hv : v.ownBlock <;> simp), h4⟩
  exact h.imp (one _) (one _)
theorem linkNone (w w0 : World) (c : Int) (bt k : Nat) (u : Value) (hk : k ≤ 1) (h : Link w0 c bt k u) : Calls Tryd.prog 30 #[u] w fun e w' => e = .returned (.bool false) ∧ w = w' := by
  match k, h with
  | 0, h => have e : _ = _ := h; subst e; exact none_class _ _
  | 1, ⟨e, _⟩ => subst e; exact none_trouble _ _
  | k + 2, _ => omega

set_option maxHeartbeats 2000000 in
theorem text_calls (c : Int) (bt : Nat) (ns : List ByteArray) (u : Value) (w : World) (hc : (c == 0) = false) (hg : Laid w) (hsm : smallB ns = true) (hch : ChainX w c bt ns u) :
    Calls Tryd.prog 13 #[u] w fun e w' => e = .returned (.string (textB c ns)) ∧ Below w.heap.size w w' := by
  obtain ⟨hm, hsz⟩ := smallB_iff hsm
  have HP := Lib.hid (fun k => pre_len (ns.take k) (fun x hx => hsz x (List.mem_of_mem_take hx)))
  have HS := Lib.hid hsz
  have HG := Lib.hid hg
  have H0 := Lib.hid hch
  have hwl := wordB_len c
  clear hsz hsm hg hch
  go_enter Tryd.func13, Tryd.ntmps13
  go_wp2
  go_loopg [0] ns.length (fun g u wr => ∃ k, k ≤ ns.length ∧ g = ns.length - k ∧ ChainX w c bt (ns.drop k) u ∧ Lib.IsBuilder 66 5 w.heap.size w.heap.size (Lib.byteCells (pre (ns.take k))) wr ∧ Below w.heap.size w wr)
  case atStart => exact ⟨0, by omega, rfl, H0.out, Lib.fresh_isBuilder 66 5 w, (Below.refl _ _).alloc (Nat.le_refl _) _⟩
  case round =>
    obtain ⟨k, hk, hgk, hch, hbd, hB⟩ := hrel
    have HGK := Lib.hid hgk
    have HB := Lib.hid hB
    have hpl : (pre (ns.take k)).length ≤ 12120 := Nat.le_trans (HP.out k) (by simp only [List.length_take]; omega)
    have hbw := hB.size
    clear hgk
    by_cases hlt : k < ns.length
    · rw [List.drop_eq_getElem_cons hlt] at hch
      obtain ⟨b, x, rfl, h1, h2, h3⟩ := hch
      obtain ⟨tx, vx, rfl⟩ := h3.ne_nil
      have H1 := Lib.hid h1
      have H2 := Lib.hid h2
      have H3 := Lib.hid h3
      have HT := Lib.hid (pre_take ns k hlt)
      have hn := HS.out _ (List.getElem_mem hlt)
      have c1 := keep_below hB _ _ h1
      have c2 := keep_below hB _ _ h2
      have q1 := ta_PCall_PCall
      clear hB h1 h2 h3
      go_wp2_with (go_at_call 30; refine (none_call _ _ _ _ _ c1 c2).mono ?_; rintro e w' ⟨rfl, rfl⟩)
      refine (writeString_calls w.heap.size w.heap.size _ _ _ hbd (by simp only [Lib.byteCells_length]; omega) hbw).mono ?_
      rintro e w1 ⟨rfl, hb1, hB1⟩
      have HB1 := Lib.hid (HB.out.trans hB1)
      clear hB1 c1 c2 hbd
      have c2 := keep_below HB1.out _ _ H2.out
      go_wp2_with fail
      refine (writeString_calls w.heap.size w.heap.size _ _ _ (.inr hb1) (by simp only [List.length_append, Lib.byteCells_length, Lib.strCells_length]; show _ + 2 ≤ _; omega) HB1.out.size).mono ?_
      rintro e w2 ⟨rfl, hb2, hB2⟩
      have HB2 := Lib.hid (HB1.out.trans hB2)
      clear hB2 c2 hb1
      have c2 := keep_below HB2.out _ _ H2.out
      go_wp2
      go_roundg (ns.length - (k + 1))
      case rel =>
        refine ⟨k + 1, by omega, rfl, H3.out, .inr ?_, HB2.out⟩
        rw [HT.out]
        simpa [Lib.byteCells, Lib.strCells] using hb2
      case measure => have := HGK.out; omega
    · have he : k = ns.length := by omega
      subst he
      rw [List.drop_length] at hch
      rw [List.take_length] at hbd hpl
      obtain ⟨kk, hkk, hl⟩ := hch
      have HO := Lib.hid (fun wx (hx : Below w.heap.size w wx) => Of_calls c bt kk _ wx hc (keep_below hx _ _ HG.out) (hl.keep (keep_below hx)))
      have HN := Lib.hid (linkNone wr w c bt kk _ hkk hl)
      obtain ⟨p, rfl, hp⟩ : ∃ p : TypeId × Value, u0 = .iface p.1 p.2 ∧ (Instr.typeAssert (.iface p.1 p.2) 26 42 true).run Tryd.prog wr = .ok (.tuple #[.pointer none, .bool false]) wr := by
        match kk, hl with
        | 0, h => have e : _ = _ := h; subst e; exact ⟨(_, _), rfl, ta_Class_PCall _ _⟩
        | 1, ⟨e, _⟩ => subst e; exact ⟨(_, _), rfl, ta_PTrouble_PCall _ _⟩
        | k + 2, _ => omega
      obtain ⟨tu, vu⟩ := p
      clear hl hB
      go_wp2_with (go_at_call 30; refine (HN.out).mono ?_; rintro e w' ⟨rfl, rfl⟩)
      refine (HO.out _ HB.out).mono ?_
      rintro e w1 ⟨rfl, hB1⟩
      have HB1 := Lib.hid (HB.out.trans (hB1.mono hbw))
      have hbd1 := builder_below hB1 hbd
      clear hB1 hbd
      go_wp2_with fail
      refine (word_calls _ _).mono ?_
      rintro e w1' ⟨rfl, rfl⟩
      go_wp2_with fail
      refine (writeString_calls w.heap.size w.heap.size _ _ _ hbd1 (by simp only [Lib.byteCells_length]; omega) HB1.out.size).mono ?_
      rintro e w2 ⟨rfl, hb2, hB2⟩
      have HB2 := Lib.hid (HB1.out.trans hB2)
      clear hB2 hbd1
      have hb3 : Lib.IsBuilder 66 5 w.heap.size w.heap.size (Lib.byteCells (textL c ns)) w2 := .inr (by simpa [Lib.byteCells, Lib.strCells, textL, wordB] using hb2)
      clear hb2
      go_wp2_with fail
      refine (Tryd.Builder_String_any w.heap.size w.heap.size _ _ hb3 HB2.out.size).mono ?_
      rintro e w3 ⟨rfl, hB3⟩
      have HB3 := Lib.hid (HB2.out.trans hB3)
      clear hB3 hb3
      go_wp2
      go_ret
      exact ⟨rfl, HB3.out⟩

set_option maxHeartbeats 400000 in
theorem text_nil (w : World) : Calls Tryd.prog 13 #[.nilIface] w fun e w' => e = .returned (.string ⟨#[]⟩) ∧ Below w.heap.size w w' := by
  go_enter Tryd.func13, Tryd.ntmps13
  go_wp2
  refine wp_loop_rounds 1 ?_
  rw [rounds_succ]
  go_wp2_with (go_at_call 30; refine (none_nil _).mono ?_; rintro e w' ⟨rfl, rfl⟩)
  refine (Tryd.Builder_String_any w.heap.size w.heap.size [] _ (Lib.fresh_isBuilder 66 5 w) (by simp)).mono ?_
  rintro e w3 ⟨rfl, hB3⟩
  have HB3 := Lib.hid (((Below.refl w.heap.size w).alloc (Nat.le_refl _) _).trans hB3)
  clear hB3
  go_wp2
  go_ret
  exact ⟨rfl, HB3.out⟩

set_option maxHeartbeats 400000 in
theorem callError_calls (c a : Int) (bt b : Nat) (n : ByteArray) (ns : List ByteArray) (w : World) (hc : (c == 0) = false) (hg : Laid w) (hsm : smallB (n :: ns) = true) (hch : Chain w c a bt (n :: ns) (.iface 42 (.pointer (some ⟨b, 0, none⟩)))) :
    Calls Tryd.prog 24 #[.pointer (some ⟨b, 0, none⟩)] w fun e w' => e = .returned (.string (textB c (n :: ns))) ∧ Below w.heap.size w w' := by
  have HT := Lib.hid (text_calls c bt (n :: ns) _ w hc hg hsm hch.x)
  clear hch hg
  go_enter Tryd.func24, Tryd.ntmps24
  go_wp2_with (go_at_call 13; refine (HT.out).mono ?_; rintro e w' ⟨rfl, hB⟩; have HB := Lib.hid hB; clear hB)
  go_ret
  exact ⟨rfl, HB.out⟩
end Go.Proofs.YtnionifbhmfkoaaDoor
