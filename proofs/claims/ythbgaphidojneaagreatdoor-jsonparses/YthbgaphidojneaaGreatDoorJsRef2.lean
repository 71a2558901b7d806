/- The reference's reading of the JSON form: quoted texts. -/
import Derived.Test.YthbgaphidojneaaGreatDoorJsRef1
import Derived.Test.YthbgaphidojneaaGreatDoorJsRQuote
namespace Go.Proofs.YthbgaphidojneaaGreatDoor
open Go.RowKit

theorem quo_end {out li : List UInt8} (h : li.take 1 = [34]) : quoAt out li = .inr (out, li.drop 1) := by
  rw [quoAt_step]; unfold stepQ; rw [if_pos h]
theorem quo_s2 {out li : List UInt8} (n1 : li.take 1 ≠ [34]) (h : li.take 2 = [92, 34]) : quoAt out li = quoAt (out ++ [34]) (li.drop 2) := by
  rw [quoAt_step]; unfold stepQ; rw [if_neg n1, if_pos h]
theorem quo_s3 {out li : List UInt8} (n1 : li.take 1 ≠ [34]) (n2 : li.take 2 ≠ [92, 34]) (h : li.take 2 = [92, 92]) : quoAt out li = quoAt (out ++ [92]) (li.drop 2) := by
  rw [quoAt_step]; unfold stepQ; rw [if_neg n1, if_neg n2, if_pos h]
/-- None of the first escapes stands there. -/
def NoEsc (li : List UInt8) (d : Nat) : Prop := ∀ j, j < d → li.take 6 ≠ escB (UInt8.ofNat j)
theorem esc_six {d : Nat} (h : d < 32) : (escB (UInt8.ofNat d)).length = 6 := by rw [escB_low (by simp; omega)]; rfl
theorem noEsc_step {li : List UInt8} {d : Nat} (h : NoEsc li d) (h2 : li.take 6 ≠ escB (UInt8.ofNat d)) : NoEsc li (d + 1) := by
  intro j hj
  by_cases e : j = d
  · rw [e]; exact h2
  · exact h j (by omega)
theorem quo_esc {out li : List UInt8} (n1 : li.take 1 ≠ [34]) (n2 : li.take 2 ≠ [92, 34]) (n3 : li.take 2 ≠ [92, 92]) {d : Nat} (hd : d < 32) (hn : NoEsc li d) (h : li.take 6 = escB (UInt8.ofNat d)) : quoAt out li = quoAt (out ++ [UInt8.ofNat d]) (li.drop 6) := by
  have e : escAt li = some d := by
    unfold escAt
    rw [List.find?_range_eq_some]
    refine ⟨by simpa using h, by simpa using hd, fun j hj => ?_⟩
    simp only [Bool.not_eq_true', decide_eq_false_iff_not]
    exact hn j hj
  rw [quoAt_step]; unfold stepQ; rw [if_neg n1, if_neg n2, if_neg n3, e]
theorem esc_none {li : List UInt8} (hn : NoEsc li 32) : escAt li = none := by
  unfold escAt
  rw [List.find?_eq_none]
  intro j hj
  simp only [decide_eq_true_eq]
  exact hn j (by simpa using hj)
theorem quo_bad {out li : List UInt8} (n1 : li.take 1 ≠ [34]) (n2 : li.take 2 ≠ [92, 34]) (n3 : li.take 2 ≠ [92, 92]) (hn : NoEsc li 32) (h : li = [] ∨ li.headD 0 = 92) : quoAt out li = .inl 4 := by
  rw [quoAt_step]; unfold stepQ; rw [if_neg n1, if_neg n2, if_neg n3, esc_none hn]
  cases li with
  | nil => rfl
  | cons c m =>
    rcases h with h | h
    · cases h
    · have hc : c = 92 := h
      simp only
      rw [if_pos hc]
theorem quo_one {out li : List UInt8} (n1 : li.take 1 ≠ [34]) (n2 : li.take 2 ≠ [92, 34]) (n3 : li.take 2 ≠ [92, 92]) (hn : NoEsc li 32) (h : li ≠ []) (h2 : li.headD 0 ≠ 92) : quoAt out li = quoAt (out ++ [li.headD 0]) (li.drop 1) := by
  rw [quoAt_step]; unfold stepQ; rw [if_neg n1, if_neg n2, if_neg n3, esc_none hn]
  cases li with
  | nil => exact absurd rfl h
  | cons c m =>
    have hc : c ≠ 92 := h2
    simp only
    rw [if_neg hc]
    rfl
theorem take_some {li p : List UInt8} {k : Nat} (hp : p.length = k) (h : li.take k = p) : (li.drop k).length + k = li.length := by
  have h1 : (li.take k).length = k := by rw [h, hp]
  rw [List.length_take] at h1
  rw [List.length_drop]; omega
theorem qesc_cut {d : Nat} (h : d < 32) : (baL (quoteL [UInt8.ofNat d])).size = 8 ∧ (baL (quoteL [UInt8.ofNat d])).extract 1 7 = baL (escB (UInt8.ofNat d)) := by
  have e : quoteL [UInt8.ofNat d] = 34 :: (escB (UInt8.ofNat d) ++ [34]) := by simp [quoteL, escL]
  have e6 := esc_six h
  refine ⟨by rw [baL_size, e]; simp [e6], ?_⟩
  rw [ba_cut, e]
  congr 1
  show (escB (UInt8.ofNat d) ++ [34]).take 6 = _
  exact List.take_left' e6
theorem quoB_no {l li out : List UInt8} {e : Nat} (h : quoD l = quoAt out li) (h2 : quoAt out li = .inl e) : quoB l = .inl e := by unfold quoB; exact bindD_err (h.trans h2)
theorem quoB_yes {l li out m x : List UInt8} (h : quoD l = quoAt out li) (h2 : quoAt out li = .inr (x, m)) : quoB l = .inr (baL x, m) := by unfold quoB; rw [bindD_ok (h.trans h2)]; rfl
def sxLen (w : World) (b : Nat) : Nat := match w.cell? ⟨b, 0, none⟩ with
  | some (.string s) => s.size
  | _ => 0
theorem sxLen_of {b : Nat} {l : List UInt8} {w : World} (h : SxAt b l w) : sxLen w b = l.length := by
  unfold sxLen
  rw [objAt_cell h 0 rfl]
  exact baL_size l
/-- Where the loop stands. -/
def QuAt (b : Nat) (l : List UInt8) (w : World) (O : ByteArray) (wr : World) : Prop := ∃ out li, baL out = O ∧ SxAt b li wr ∧ w.grownBy wr (some b) ∧ out.length + li.length ≤ 60000 ∧ quoD l = quoAt out li
theorem qu_next {b : Nat} {l : List UInt8} {w : World} {out li li' : List UInt8} {x : UInt8} {O : ByteArray} {wr wr' : World} (hO : baL out = O) (o : SxAt b li' wr') (g : w.grownBy wr (some b)) (g2 : wr.grownBy wr' (some b)) (hl : out.length + li.length ≤ 60000) (hq : quoD l = quoAt out li) (hs : quoAt out li = quoAt (out ++ [x]) li') (hli : li'.length < li.length) : QuAt b l w (O ++ ⟨#[x]⟩) wr' :=
  ⟨out ++ [x], li', by rw [baL_app, hO]; rfl, o, jgrown_trans g g2, by rw [List.length_append]; show _ + 1 + _ ≤ _; omega, hq.trans hs⟩
set_option maxRecDepth 100000 in
set_option maxHeartbeats 8000000 in
theorem sxQuo_is {b : Nat} {l : List UInt8} (hl : l.length ≤ 60000) (w : World) (h : SxAt b l w) :
    Calls Tryz.prog 24 #[.pointer (some ⟨b, 0, none⟩)] w (SxPost quoB .string b l w) := by
  have H := Lib.hid (sxMust_is [34] w h)
  have hlt := objAt_lt h
  have hL := Lib.hid hl
  clear h hl
  go_enter Tryz.func24, Tryz.ntmps24
  go_wp2_with fail
  refine H.out.mono ?_
  rintro e w1 ⟨g1, ⟨rfl, ev, hd⟩ | ⟨u, l1, hd, rfl, o1⟩⟩
  · have HE : Hid (quoB l = .inl ev) := by show _ = _; unfold quoB quoD; rw [bindD_err (bindD_err hd)]
    unfold thrown
    clear hd
    go_wp2
    exact ⟨rfl, g1, .inl ⟨rfl, ev, HE.out⟩⟩
  · have HQ0 : Hid (quoD l = quoAt [] l1) := by show _ = _; unfold quoD; rw [bindD_ok hd]; rfl
    have hl1 : l1.length ≤ 60000 := by have := shr_lit 34 [] l u l1 hd; have := hL.out; omega
    have O1 := Lib.hid o1
    have G1 := Lib.hid g1
    clear hd o1 g1 H hL
    go_wp2
    go_loopw [3] (fun ov wr => ∃ O, ov = .string O ∧ O.size ≤ 60000 ∧ QuAt b l w O wr) (fun _ wr => sxLen wr b)
    case atStart => exact ⟨⟨#[]⟩, rfl, by decide, [], l1, rfl, O1.out, G1.out, by simpa using hl1, HQ0.out⟩
    case round =>
      clear hl1 HQ0 O1 G1
      obtain ⟨O, rfl, hOs, out, li, hO, o, g, hlen, hq⟩ := hrel
      have HM := Lib.hid (sxLen_of o)
      have HO := Lib.hid hO
      have HQ := Lib.hid hq
      have HLn := Lib.hid hlen
      have GG := Lib.hid g
      have S1 := Lib.hid (sxSkip_is [34] wr o)
      have hO1 : O.size + 1 ≤ 60000 ∨ li = [] := by
        by_cases e : li = []
        · exact .inr e
        · left
          have : 0 < li.length := List.length_pos_iff.2 e
          have h2 : O.size = out.length := by rw [← hO, baL_size]
          omega
      have HO1 := Lib.hid hO1
      clear hO hq hlen g o hO1
      go_wp2_with fail
      refine S1.out.mono ?_
      rintro e w2 ⟨c, rfl, g2, ⟨rfl, h1, o2⟩ | ⟨rfl, h1, o2⟩⟩
      · have HE := Lib.hid (quoB_yes HQ.out (quo_end h1))
        clear h1 S1
        go_wp2
        go_ret
        exact ⟨jgrown_trans GG.out g2, .inr ⟨_, _, HE.out, congrArg (fun z => Ending.returned (Value.string z)) HO.out.symm, o2⟩⟩
      · have N1 := Lib.hid h1
        have G2 := Lib.hid g2
        have S2 := Lib.hid (sxSkip_is [92, 34] w2 o2)
        clear h1 g2 o2 S1
        go_wp2_with fail
        refine S2.out.mono ?_
        rintro e w3 ⟨c, rfl, g3, ⟨rfl, h2, o3⟩ | ⟨rfl, h2, o3⟩⟩
        · have hdr := take_some (k := 2) rfl h2
          have HN : Hid (QuAt b l w (O ++ ⟨#[34]⟩) w3) := qu_next HO.out o3 GG.out (jgrown_trans G2.out g3) HLn.out HQ.out (quo_s2 N1.out h2) (by show (li.drop 2).length < _; omega)
          have HM3 := Lib.hid (sxLen_of o3)
          have hO1 : O.size + 1 ≤ 60000 := by
            rcases HO1.out with h | h
            · exact h
            · rw [h] at h2; simp at h2
          clear h2 o3 g3 S2
          go_wp2
          go_roundw
          case rel => exact ⟨_, rfl, by rw [ByteArray.size_append]; show _ + 1 ≤ _; omega, HN.out⟩
          case measure => rw [HM3.out, HM.out]; show (li.drop 2).length < _; omega
        · have N2 := Lib.hid h2
          have G3 := Lib.hid (jgrown_trans G2.out g3)
          have S3 := Lib.hid (sxSkip_is [92, 92] w3 o3)
          clear h2 g3 o3 S2 G2
          go_wp2_with fail
          refine S3.out.mono ?_
          rintro e w4 ⟨c, rfl, g4, ⟨rfl, h3, o4⟩ | ⟨rfl, h3, o4⟩⟩
          · have hdr := take_some (k := 2) rfl h3
            have HN : Hid (QuAt b l w (O ++ ⟨#[92]⟩) w4) := qu_next HO.out o4 GG.out (jgrown_trans G3.out g4) HLn.out HQ.out (quo_s3 N1.out N2.out h3) (by show (li.drop 2).length < _; omega)
            have HM3 := Lib.hid (sxLen_of o4)
            have hO1 : O.size + 1 ≤ 60000 := by
              rcases HO1.out with h | h
              · exact h
              · rw [h] at h3; simp at h3
            clear h3 o4 g4 S3
            go_wp2
            go_roundw
            case rel => exact ⟨_, rfl, by rw [ByteArray.size_append]; show _ + 1 ≤ _; omega, HN.out⟩
            case measure => rw [HM3.out, HM.out]; show (li.drop 2).length < _; omega
          · have N3 := Lib.hid h3
            have G4 := Lib.hid (jgrown_trans G3.out g4)
            have O4 := Lib.hid o4
            clear h3 g4 o4 S3 G3
            go_wp2
            go_loopw [3, 4, 20] (fun ov fv cv wq => ov = .string O ∧ fv = .bool false ∧ ∃ d : Nat, cv = .int .i64 (d : Int) ∧ d ≤ 32 ∧ SxAt b li wq ∧ wr.grownBy wq (some b) ∧ Hid (NoEsc li d)) (fun _ _ cv _ => 32 - (intOf cv).toNat)
            case atStart => exact ⟨rfl, rfl, 0, rfl, by omega, O4.out, G4.out, fun j hj => absurd hj (by omega)⟩
            case round =>
              clear O4 G4
              obtain ⟨rfl, rfl, d, rfl, hd32, oq, gq, NE⟩ := hrel
              by_cases hdl : (d : Int) < 32
              · have hd : d < 32 := by omega
                have HC := Lib.hid (chr_nat d (by omega))
                have HR : Hid (∀ w, Calls Tryz.prog 60 #[.string ⟨#[UInt8.ofNat d]⟩] w fun e w' => e = .returned (.string (baL (quoteL [UInt8.ofNat d]))) ∧ Below w.heap.size w w') := rquote_is ⟨#[UInt8.ofNat d]⟩ (by show 1 ≤ _; omega)
                obtain ⟨q8, qcut⟩ := qesc_cut hd
                have e6 := esc_six hd
                obtain ⟨x, hx⟩ : ∃ x, UInt8.ofNat d = x := ⟨_, rfl⟩
                rw [hx] at HC HR q8 qcut e6
                obtain ⟨Q, hQ⟩ : ∃ Q, baL (quoteL [x]) = Q := ⟨_, rfl⟩
                rw [hQ] at HR q8 qcut
                obtain ⟨E, hE⟩ : ∃ E, baL (escB x) = E := ⟨_, rfl⟩
                rw [hE] at qcut
                have zC : (⟨#[x]⟩ : ByteArray).size = 1 := rfl
                obtain ⟨C, hC⟩ : ∃ C, (⟨#[x]⟩ : ByteArray) = C := ⟨_, rfl⟩
                rw [hC] at HC HR zC
                have HX := Lib.hid hx
                have HEE := Lib.hid hE
                have HCC := Lib.hid hC
                have OQ := Lib.hid oq
                have GQ := Lib.hid gq
                have E6 := Lib.hid e6
                clear hQ hx hE hC oq gq e6
                go_wp2_with fail
                refine (HC.out _).mono ?_
                rintro e w5 ⟨rfl, b5⟩
                go_wp2_with fail
                refine (HR.out _).mono ?_
                rintro e w6 ⟨rfl, b6⟩
                have o6 := objAt_next (objAt_next OQ.out b5) b6
                have G6 := Lib.hid (jgrown_trans (jgrown_trans GQ.out (grown_of_below b5 (some b))) (grown_of_below b6 (some b)))
                have S6 := sxSkip_is (escB x) w6 o6
                rw [HEE.out] at S6
                have S6 := Lib.hid S6
                clear b5 b6 o6 OQ GQ HR
                go_wp2_with fail
                refine S6.out.mono ?_
                rintro e w7 ⟨c, rfl, g7, ⟨rfl, h4, o7⟩ | ⟨rfl, h4, o7⟩⟩
                · rw [E6.out] at h4 o7
                  have hdr := take_some (k := 6) E6.out h4
                  have HN : Hid (∀ w8, Below w7.heap.size w7 w8 → QuAt b l w (O ++ C) w8) := by
                    intro w8 b8
                    rw [← HCC.out]
                    refine qu_next HO.out (objAt_next o7 b8) GG.out (jgrown_trans (jgrown_trans G6.out g7) (grown_of_below b8 (some b))) HLn.out HQ.out ?_ (by omega)
                    have := quo_esc (out := out) N1.out N2.out N3.out hd NE.out (by rw [HX.out]; exact h4)
                    rw [HX.out] at this
                    exact this
                  have O7 := Lib.hid o7
                  have hO1 : O.size + 1 ≤ 60000 := by
                    rcases HO1.out with h | h
                    · exact h
                    · rw [h] at hdr; simp at hdr
                  have aO : ¬ (9223372036854775807 < O.size + C.size) := by omega
                  clear h4 o7 g7 S6 G6
                  go_wp2_with fail
                  refine (HC.out _).mono ?_
                  rintro e w8 ⟨rfl, b8⟩
                  have HM8 := Lib.hid (sxLen_of (objAt_next O7.out b8))
                  have HN8 := Lib.hid (HN.out w8 b8)
                  clear b8 HN O7
                  go_wp2
                  go_roundw
                  case rel => exact ⟨_, rfl, by rw [ByteArray.size_append]; omega, HN8.out⟩
                  case measure => rw [HM8.out, HM.out]; omega
                · rw [E6.out] at h4
                  have NE2 := Lib.hid (noEsc_step NE.out (by rw [HX.out]; exact h4))
                  have G7 := Lib.hid (jgrown_trans G6.out g7)
                  have O7 := Lib.hid o7
                  clear h4 o7 g7 S6 G6
                  go_wp2
                  go_roundw
                  case rel => exact ⟨rfl, rfl, d + 1, by go_num, by omega, O7.out, G7.out, NE2.out⟩
                  case measure => simp [intOf]; omega
              · obtain rfl : d = 32 := by omega
                have c0 := objAt_cell oq 0 rfl
                have f0 := objAt_free oq 0
                have lq := objAt_lt oq
                have zl := baL_size li
                have OQ := Lib.hid oq
                have GQ := Lib.hid gq
                have hat : Hid (∀ h : 0 < (baL li).size, (baL li)[0] = li.headD 0) := fun h => by have := ba_at li 0 h; simpa using this
                have hcut : (baL li).extract 0 1 = baL (li.take 1) := by rw [ba_cut]; rfl
                have hrest := ba_rest li 1
                obtain ⟨L, hLL⟩ : ∃ L, baL li = L := ⟨_, rfl⟩
                rw [hLL] at c0 zl hat hcut hrest
                have ZL := Lib.hid zl
                clear oq gq hLL zl
                by_cases e0 : li = []
                · have HB := Lib.hid (quoB_no HQ.out (quo_bad N1.out N2.out N3.out NE.out (.inl e0)))
                  have z0 : L.size = 0 := by rw [ZL.out, e0]; rfl
                  have eL : L = ⟨#[]⟩ := by
                    apply ByteArray.ext
                    exact Array.eq_empty_of_size_eq_zero z0
                  subst eL
                  clear hat hcut hrest e0 z0
                  go_wp2
                  exact ⟨rfl, jgrown_trans GG.out GQ.out, .inl ⟨rfl, _, HB.out⟩⟩
                · have hp : 0 < li.length := List.length_pos_iff.2 e0
                  have z0 : 0 < L.size := by rw [ZL.out]; exact hp
                  obtain ⟨m1, m2⟩ := not_empty (s := L) (by omega)
                  have h0 := hat.out z0
                  by_cases e92 : li.headD 0 = 92
                  · have HB := Lib.hid (quoB_no HQ.out (quo_bad N1.out N2.out N3.out NE.out (.inr e92)))
                    have t92 : L[0].toNat = 92 := by rw [h0, e92]; rfl
                    clear hcut hrest e0 h0 hat e92 hp
                    go_wp2
                    exact ⟨rfl, jgrown_trans GG.out GQ.out, .inl ⟨rfl, _, HB.out⟩⟩
                  · have t92 : ¬ L[0].toNat = 92 := by rw [h0]; intro e; exact e92 (u8_of e)
                    have t92' : ¬ (L[0].toNat : Int) = 92 := by omega
                    have hone : li.take 1 = [li.headD 0] := by
                      cases li with
                      | nil => exact absurd rfl e0
                      | cons c m => rfl
                    rw [hone] at hcut
                    have hO1 : O.size + 1 ≤ 60000 := by
                      rcases HO1.out with h | h
                      · exact h
                      · exact absurd h e0
                    obtain ⟨x, hx⟩ : ∃ x, li.headD 0 = x := ⟨_, rfl⟩
                    have HS := Lib.hid (quo_one (out := out) N1.out N2.out N3.out NE.out e0 e92)
                    rw [hx] at hcut HS
                    have zC : (baL [x]).size = 1 := rfl
                    have HCC : Hid (baL [x] = ⟨#[x]⟩) := rfl
                    obtain ⟨C, hC⟩ : ∃ C, baL [x] = C := ⟨_, rfl⟩
                    rw [hC] at hcut zC HCC
                    obtain ⟨K, hK⟩ : ∃ K, baL (li.drop 1) = K := ⟨_, rfl⟩
                    rw [hK] at hrest
                    have HK := Lib.hid hK
                    have aO : ¬ (9223372036854775807 < O.size + C.size) := by omega
                    have l1 : 1 ≤ L.size := z0
                    have HP := Lib.hid hp
                    have O9 : Hid (SxAt b (li.drop 1) (wr.setCell ⟨b, 0, none⟩ (.string K))) := by show SxAt _ _ _; rw [← HK.out]; exact sx_set OQ.out _
                    have HN : Hid (QuAt b l w (O ++ C) (wr.setCell ⟨b, 0, none⟩ (.string K))) := by
                      show QuAt _ _ _ _ _
                      rw [HCC.out]
                      exact qu_next HO.out O9.out GG.out (jgrown_trans GQ.out (grown_set _ b 0 _)) HLn.out HQ.out HS.out (by rw [List.length_drop]; omega)
                    have HM9 := Lib.hid (sxLen_of O9.out)
                    clear h0 hat e92 e0 hone hx hC hK HS hp
                    go_wp2
                    go_roundw
                    case rel => exact ⟨_, rfl, by rw [ByteArray.size_append]; omega, HN.out⟩
                    case measure => rw [HM9.out, HM.out, List.length_drop]; have := HP.out; omega
end Go.Proofs.YthbgaphidojneaaGreatDoor
