/- The reference's reading of deltas: the function that DeltaDecode hands to read. -/
import Derived.Test.YthfbjmjohmkfjaaDoorWiRBody
import Derived.Test.YthfbjmjohmkfjaaDoorPkDl3
import Derived.Test.YthfbjmjohmkfjaaDoorPkUp4
import Derived.Test.YthfbjmjohmkfjaaDoorDlRowN
import Derived.Deep.RegionLaw
import Derived.RegionDies
namespace Go.Proofs.YthfbjmjohmkfjaaDoor
open Go.RowKit

/-- The rest of the reader, when k lists of names are read. -/
def dtail (a N : Int) (js : List JobD) (ns : List NodeD) (ls : List LeaseD) : Nat → List ByteArray → List ByteArray → Dec DelD
  | 0, _, _ => bindD (rowsD 40 (textD V8)) fun gj => bindD (rowsD 20 (textD V8)) fun gn => bindD (rowsD 40 (textD V8)) fun gl => pureD ⟨a, N, js, ns, ls, gj, gn, gl⟩
  | 1, gj, _ => bindD (rowsD 20 (textD V8)) fun gn => bindD (rowsD 40 (textD V8)) fun gl => pureD ⟨a, N, js, ns, ls, gj, gn, gl⟩
  | _, gj, gn => bindD (rowsD 40 (textD V8)) fun gl => pureD ⟨a, N, js, ns, ls, gj, gn, gl⟩
theorem delRW_rows : delRW = bindD intD fun a => bindD intD fun n => bindD (rows3 3) fun x => dtail a (wrap64 (a + n)) x.1 x.2.1 x.2.2 0 [] [] := by
  unfold delRW rows3 dtail
  simp only [bindD_assoc, bindD_pure]
theorem own_k2 {b c B e sz n : Nat} {w w' : World} {v : Value} {xs : List Value} {vb vc : Array Value} {tb tc : TypeId} (h : w.ownsRow B e sz v n xs) (hb : ObjAt b vb tb w) (hc : ObjAt c vc tc w) (h1 : tb ≠ e) (h2 : tc ≠ e) (k : Keep2 b c w w') : w'.ownsRow B e sz v n xs := by
  refine ⟨h.1, ?_⟩
  rcases h.2 with h0 | ⟨g, cap, cur, hv, hbg, hgc, r⟩
  · exact .inl h0
  · refine .inr ⟨g, cap, cur, hv, hbg, ?_, r⟩
    have ne : ∀ (d : Nat) (vs : Array Value) (t : TypeId), ObjAt d vs t w → t ≠ e → g ≠ d := by
      rintro d vs t hd ht rfl
      unfold ObjAt at hd
      rw [hd] at hgc
      simp only [Option.some.injEq, Obj.cells.injEq] at hgc
      exact ht hgc.2.1
    rw [k.block g (Array.getElem?_eq_some_iff.1 hgc).1 (ne b _ _ hb h1) (ne c _ _ hc h2)]
    exact hgc
theorem k2_app {b c : Nat} {W w w' : World} {row : Option Nat} (h : Keep2 b c W w) (g : w.grownBy w' row) (hr : ∀ k, row = some k → W.heap.size ≤ k) : Keep2 b c W w' :=
  ⟨g.os.trans h.os, g.tape.trans h.tape, g.output.trans h.output, Nat.le_trans h.size g.size, fun i hi h1 h2 => (g.block i (Nat.lt_of_lt_of_le hi h.size) (fun e => by have := hr i e.symm; omega)).trans (h.block i hi h1 h2)⟩
theorem rows3_short {v : Int} {l m : List UInt8} {x : List JobD × List NodeD × List LeaseD} (h : rows3 v l = .inr (x, m)) : m.length ≤ l.length := by
  unfold rows3 at h
  cases h1 : rowsD 40 (jobR V8 v) l with
  | inl e => rw [bindD_err h1] at h; cases h
  | inr p =>
    obtain ⟨a, l1⟩ := p
    rw [bindD_ok h1] at h
    have s1 := ((jobC V8 v).rows 40 (by omega)).short h1
    cases h2 : rowsD 20 (nodeR V8 v) l1 with
    | inl e => rw [bindD_err h2] at h; cases h
    | inr p =>
      obtain ⟨a2, l2⟩ := p
      rw [bindD_ok h2] at h
      have s2 := ((nodeC V8 v).rows 20 (by omega)).short h2
      cases h3 : rowsD 40 (leaseR V8) l2 with
      | inl e => rw [bindD_err h3] at h; cases h
      | inr p =>
        obtain ⟨a3, l3⟩ := p
        rw [bindD_ok h3] at h
        have s3 := ((leaseC V8).rows 40 (by omega)).short h3
        cases h
        omega
theorem k2_one (b c : Nat) (w : World) (ob : Obj) : Keep2 b c w (w.alloc ob) := ⟨rfl, rfl, rfl, by rw [World.size_alloc]; omega, fun i hi _ _ => (below_one w ob).block i hi⟩
theorem k2_base {b c : Nat} {W w : World} (h : Keep2 b c W w) (ob : Obj) : W.heap.size ≤ (w.alloc ob).heap.size := by
  rw [World.size_alloc]
  have := h.size
  omega
theorem k2_drew (b c : Nat) (w : World) : Keep2 b c w w.drew := ⟨rfl, rfl, rfl, Nat.le_refl _, fun _ _ _ _ => rfl⟩
theorem str_new' (w : World) (s : ByteArray) (t : TypeId) : ∀ j u, [Value.string s][j]? = some u → (w.alloc (.cells #[.string s] t)).cell? ((⟨w.heap.size, 0, none⟩ : Addr).add j) = some u := cell_one_new w _ t
theorem str_one' (s : ByteArray) : ∀ u ∈ [Value.string s], u.oneCell' = true := by
  intro u hu
  simp only [List.mem_cons, List.not_mem_nil, or_false] at hu
  subst hu
  rfl
/-- What the function answers: it throws, or the delta lies there. -/
def DBodyP (b c : Nat) (l : List UInt8) (w : World) (r : Ending) (w' : World) : Prop := Keep2 b c w w' ∧ ((∃ e, delRW l = .inl e ∧ r = taken e) ∨ (∃ d l' M, delRW l = .inr (d, l') ∧ r = .returned (.tuple #[]) ∧ ObjAt c (dlC M d) 27 w' ∧ OwnD w.heap.size M d w' ∧ SrcAt b l' w'))
set_option maxRecDepth 100000 in
set_option maxHeartbeats 16000000 in
theorem dbody_is {b c : Nat} {l : List UInt8} (hl : l.length ≤ 140737488355328) (w : World) (h : SrcAt b l w) (hS : ObjAt c #[.int .i64 0, .int .i64 0, .slice none 0 0, .slice none 0 0, .slice none 0 0, .slice none 0 0, .slice none 0 0, .slice none 0 0] 27 w) (n3 : c ≠ b) :
    Calls Tryd.prog 31 #[.pointer (some ⟨b, 0, none⟩), .pointer (some ⟨c, 0, none⟩)] w (DBodyP b c l w) := by
  have n3' : ¬ b = c := fun e => n3 e.symm
  have ES := Lib.hid delRW_rows
  have H0 := Lib.hid (srcNum_is hl w h)
  have HS := Lib.hid hS
  have lc := objAt_lt hS
  have lb := objAt_lt h
  clear hS h
  go_enter Tryd.func31, Tryd.ntmps31
  go_wp2_with fail
  refine H0.out.mono ?_
  rintro r w1 ⟨g1, ⟨e, he, rfl⟩ | ⟨a, l1, hd, rfl, s1⟩⟩
  · skip
    have HE : Hid (delRW l = .inl e) := by show _ = _; rw [ES.out, bindD_err he]
    have G := Lib.hid ((k2_grown g1 : Keep2 b c w w1))
    unfold taken
    clear he g1
    go_wp2
    exact ⟨rfl, G.out, .inl ⟨e, HE.out, rfl⟩⟩
  · have HD := Lib.hid hd
    have L1 := short_int hd hl
    have oS := obj_grown HS.out g1 n3
    have oS' : ObjAt c #[.int .i64 a, .int .i64 0, .slice none 0 0, .slice none 0 0, .slice none 0 0, .slice none 0 0, .slice none 0 0, .slice none 0 0] 27 _ := objAt_set oS 0 (.int .i64 a)
    have s1' := src_other s1 n3' 0 (.int .i64 a)
    have K1 : Keep2 b c w _ := k2_trans (k2_grown g1) (k2_set b c w1 0 (.int .i64 a))
    have f0 := objAt_free oS 0
    have t0 := objAt_cell oS 0 rfl
    have lS := objAt_lt oS
    have hba : 0 ≤ a ∧ a ≤ 4611686018427387904 := (intC.sound _ _ _ hd).1
    have P1 := Lib.hid (And.intro s1' (And.intro oS' K1))
    clear hd oS oS' s1' K1 s1 g1 H0
    go_upto_region 1 with fail
    clear f0 t0 lS
    generalize w1.setCell ⟨c, 0, none⟩ (.int .i64 a) = W1 at P1 ⊢
    cases hd2 : intD l1 with
    | inl e =>
      have HN : Hid (∀ V, SrcAt b l1 V → Calls Tryd.prog 32 #[.pointer (some ⟨b, 0, none⟩)] V fun r w' => r = taken e ∧ V.grownBy w' (some b)) := by
        intro V hV
        refine (srcNum_is L1 V hV).mono ?_
        rintro r w' ⟨g, ⟨e', he, rfl⟩ | ⟨a', l', hd', _⟩⟩
        · rw [hd2] at he; cases he; exact ⟨rfl, g⟩
        · rw [hd2] at hd'; cases hd'
      have HE : Hid (delRW l = .inl e) := by show _ = _; rw [ES.out, bindD_ok HD.out, bindD_err hd2]
      have sW := P1.out.1
      have t0 := objAt_cell P1.out.2.1 0 rfl
      have lS := objAt_lt P1.out.2.1
      have KW := P1.out.2.2
      clear hd2
      go_region_dies
      all_goals
        refine (HN.out W1.drew (objAt_drew sW)).mono ?_
        rintro r x1 ⟨rfl, g⟩
        have G := Lib.hid (k2_trans KW (k2_trans (k2_drew b c W1) (k2_grown g)))
        unfold taken
        clear g
        first | exact ⟨rfl, G.out, .inl ⟨e, HE.out, rfl⟩⟩ | (go_wp2; exact ⟨rfl, G.out, .inl ⟨e, HE.out, rfl⟩⟩)
    | inr x =>
      obtain ⟨n, l2⟩ := x
      have hbn : 0 ≤ n ∧ n ≤ 4611686018427387904 := (intC.sound _ _ _ hd2).1
      have L2 := short_int hd2 L1
      obtain ⟨N, hN⟩ : ∃ N, wrap64 (a + n) = N := ⟨_, rfl⟩
      have u2 : IntKind.i64.wrap (a + n) = N := by rw [IntWalk.i64_left, hN]
      have HD2 := Lib.hid hd2
      have HNN := Lib.hid hN
      have HN : Hid (∀ V, SrcAt b l1 V → Calls Tryd.prog 32 #[.pointer (some ⟨b, 0, none⟩)] V fun r w' => r = .returned (.int .i64 n) ∧ V.grownBy w' (some b) ∧ SrcAt b l2 w') := by
        intro V hV
        refine (srcNum_is L1 V hV).mono ?_
        rintro r w' ⟨g, ⟨e', he, rfl⟩ | ⟨a', l', hd', rfl, s'⟩⟩
        · rw [hd2] at he; cases he
        · rw [hd2] at hd'; cases hd'; exact ⟨rfl, g, s'⟩
      have sW := P1.out.1
      have t0 := objAt_cell P1.out.2.1 0 rfl
      have t1 := objAt_cell P1.out.2.1 1 rfl
      have f1 := objAt_free P1.out.2.1 1
      have lS := objAt_lt P1.out.2.1
      clear hd2 hN hba hbn
      go_cut [] from 5 (fun wc => SrcAt b l2 wc ∧ ObjAt c #[.int .i64 a, .int .i64 N, .slice none 0 0, .slice none 0 0, .slice none 0 0, .slice none 0 0, .slice none 0 0, .slice none 0 0] 27 wc ∧ Keep2 b c w wc)
      case first =>
        go_region_law (first
          | (go_simp; go_at_call 32; refine (HN.out W1.drew (objAt_drew sW)).mono ?_; rintro r x1 ⟨rfl, g, s2⟩; have o2 := obj_grown (objAt_drew P1.out.2.1) g n3; have k2 := k2_trans P1.out.2.2 (k2_trans (k2_drew b c W1) (k2_grown g)); have t0' := objAt_cell o2 0 rfl; have t1' := objAt_cell o2 1 rfl; have f1' := objAt_free o2 1; have lS' := objAt_lt o2; have Q := Lib.hid (And.intro s2 (And.intro o2 k2)); clear g s2 o2 k2))
        all_goals
          go_wp2_with fail
          go_meet
          case rel => exact ⟨src_other Q.out.1 n3' 1 (.int .i64 N), objAt_set Q.out.2.1 1 (.int .i64 N), k2_trans Q.out.2.2 (k2_set b c _ 1 (.int .i64 N))⟩
      case rest =>
        obtain ⟨s2, oS2, K2⟩ := hcut
        clear P1 HN sW t0 t1 f1 lS u2
        have HR := Lib.hid (srcRows_is 3 L2 wc s2)
        have S2 := Lib.hid (And.intro oS2 K2)
        have lW := objAt_lt oS2
        have lbW := objAt_lt s2
        clear s2 oS2 K2
        go_wp2_with fail
        refine HR.out.mono ?_
        rintro r w3 ⟨g3, ⟨e, he, rfl⟩ | ⟨js, ns, ls, l3, y1, y2, y3, hr, rfl, o1, o2, o3, s3⟩⟩
        · skip
          have HE : Hid (delRW l = .inl e) := by show _ = _; rw [ES.out, bindD_ok HD.out, bindD_ok HD2.out, bindD_err he]
          have G := Lib.hid (k2_trans S2.out.2 (k2_grown g3))
          unfold taken
          clear he g3
          go_wp2
          exact ⟨rfl, G.out, .inl ⟨e, HE.out, rfl⟩⟩
        · have L3 : l3.length ≤ 140737488355328 := by
            exact Nat.le_trans (rows3_short hr) L2
          have HX : Hid (delRW l = dtail a N js ns ls 0 [] [] l3) := by show _ = _; rw [ES.out, bindD_ok HD.out, bindD_ok HD2.out, bindD_ok hr, HNN.out]
          obtain ⟨d1, p1, rfl⟩ := ownRow_slice o1
          obtain ⟨d2, p2, rfl⟩ := ownRow_slice o2
          obtain ⟨d3, p3, rfl⟩ := ownRow_slice o3
          have oS3 := obj_grown S2.out.1 g3 n3
          have K3 := k2_trans S2.out.2 (k2_grown g3)
          have hsz : w.heap.size ≤ wc.heap.size := S2.out.2.size
          have f2 := objAt_free oS3 2
          have t2 := objAt_cell oS3 2 rfl
          have f3 := objAt_free oS3 3
          have t3 := objAt_cell oS3 3 rfl
          have f4 := objAt_free oS3 4
          have t4 := objAt_cell oS3 4 rfl
          have lS3 := objAt_lt oS3
          have q0 : ObjAt c #[.int .i64 a, .int .i64 N, .slice d1 js.length p1, .slice none 0 0, .slice none 0 0, .slice none 0 0, .slice none 0 0, .slice none 0 0] 27 _ := objAt_set oS3 2 (.slice d1 js.length p1)
          have o1_0 := own_box o1 oS3 (by decide) 2 (.slice d1 js.length p1)
          have o2_0 := own_box o2 oS3 (by decide) 2 (.slice d1 js.length p1)
          have o3_0 := own_box o3 oS3 (by decide) 2 (.slice d1 js.length p1)
          have q1 : ObjAt c #[.int .i64 a, .int .i64 N, .slice d1 js.length p1, .slice d2 ns.length p2, .slice none 0 0, .slice none 0 0, .slice none 0 0, .slice none 0 0] 27 _ := objAt_set q0 3 (.slice d2 ns.length p2)
          have o1_1 := own_box o1_0 q0 (by decide) 3 (.slice d2 ns.length p2)
          have o2_1 := own_box o2_0 q0 (by decide) 3 (.slice d2 ns.length p2)
          have o3_1 := own_box o3_0 q0 (by decide) 3 (.slice d2 ns.length p2)
          have q2 : ObjAt c #[.int .i64 a, .int .i64 N, .slice d1 js.length p1, .slice d2 ns.length p2, .slice d3 ls.length p3, .slice none 0 0, .slice none 0 0, .slice none 0 0] 27 _ := objAt_set q1 4 (.slice d3 ls.length p3)
          have o1_2 := own_box o1_1 q1 (by decide) 4 (.slice d3 ls.length p3)
          have o2_2 := own_box o2_1 q1 (by decide) 4 (.slice d3 ls.length p3)
          have o3_2 := own_box o3_1 q1 (by decide) 4 (.slice d3 ls.length p3)
          have SF := Lib.hid (src_other (src_other (src_other s3 n3' 2 (.slice d1 js.length p1)) n3' 3 (.slice d2 ns.length p2)) n3' 4 (.slice d3 ls.length p3))
          have KF : Hid (Keep2 b c w _) := Lib.hid (k2_trans K3 (k2_trans (k2_trans (k2_set b c w3 2 (.slice d1 js.length p1)) (k2_set b c _ 3 (.slice d2 ns.length p2))) (k2_set b c _ 4 (.slice d3 ls.length p3))))
          have OF := Lib.hid q2
          have R1 := Lib.hid (ownsRow_low (B' := w.heap.size) o1_2 hsz)
          have R2 := Lib.hid (ownsRow_low (B' := w.heap.size) o2_2 hsz)
          have R3 := Lib.hid (ownsRow_low (B' := w.heap.size) o3_2 hsz)
          clear hr o1 o2 o3 s3 g3 oS3 K3 HR S2 q0 q1 q2 o1_0 o1_1 o1_2 o2_0 o2_1 o2_2 o3_0 o3_1 o3_2
          obtain ⟨V0, hV0⟩ : ∃ V, (((w3.setCell ⟨c, 2, none⟩ (.slice d1 js.length p1)).setCell ⟨c, 3, none⟩ (.slice d2 ns.length p2)).setCell ⟨c, 4, none⟩ (.slice d3 ls.length p3)) = V := ⟨_, rfl⟩
          rw [hV0] at SF KF OF R1 R2 R3
          have HV0 := Lib.hid hV0
          clear hV0
          go_upto_region 3 with fail
          rw [HV0.out]
          clear f2 f3 f4 t2 t3 t4 lS3 lW lbW
          obtain ⟨Pb, hPb⟩ : ∃ L, V0.heap.size = L := ⟨_, rfl⟩
          obtain ⟨V, hV⟩ : ∃ V, V0.alloc (.cells #[.pointer (some ⟨c, 5, none⟩), .pointer (some ⟨c, 6, none⟩), .pointer (some ⟨c, 7, none⟩)] 69) = V := ⟨_, rfl⟩
          have bA := below_one V0 (.cells #[.pointer (some ⟨c, 5, none⟩), .pointer (some ⟨c, 6, none⟩), .pointer (some ⟨c, 7, none⟩)] 69)
          have oP := objAt_new V0 #[.pointer (some ⟨c, 5, none⟩), .pointer (some ⟨c, 6, none⟩), .pointer (some ⟨c, 7, none⟩)] 69
          rw [hV] at bA oP
          rw [hPb] at oP
          have hcP : c < Pb := by have := objAt_lt OF.out; omega
          have hbP : b < Pb := by have := objAt_lt SF.out; omega
          have SF := Lib.hid (objAt_next SF.out bA : SrcAt b l3 V)
          have OF := Lib.hid (objAt_next OF.out bA)
          have R1 := Lib.hid (own_next R1.out bA)
          have R2 := Lib.hid (own_next R2.out bA)
          have R3 := Lib.hid (own_next R3.out bA)
          have KF : Hid (Keep2 b c w V) := (show Keep2 b c w V from by rw [← hV]; exact k2_trans KF.out (k2_one b c V0 _))
          have OP := Lib.hid oP
          have lc' := objAt_lt OF.out
          clear bA oP
          go_wp2
          obtain ⟨i3, ti, tz0, tz1, tz2⟩ := info_parts' info_strs
          have Gi := Lib.hid ti
          have Gz0 := Lib.hid tz0
          have Gz1 := Lib.hid tz1
          have Gz2 := Lib.hid tz2
          clear ti tz0 tz1 tz2 lc'
          go_loopw [28] (fun iv wr => ∃ (k : Nat) (g1 g2 g3 : List ByteArray) (v1 v2 v3 : Value) (lk : List UInt8), iv = .int .i64 (k : Int) ∧ Hid ((k = 0 ∧ g1 = [] ∧ g2 = [] ∧ g3 = [] ∧ v1 = .slice none 0 0 ∧ v2 = .slice none 0 0 ∧ v3 = .slice none 0 0) ∨ (k = 1 ∧ g2 = [] ∧ g3 = [] ∧ v2 = .slice none 0 0 ∧ v3 = .slice none 0 0) ∨ (k = 2 ∧ g3 = [] ∧ v3 = .slice none 0 0) ∨ k = 3) ∧ Hid (k < 3 → delRW l = dtail a N js ns ls k g1 g2 lk) ∧ Hid (k = 3 → delRW l = .inr (⟨a, N, js, ns, ls, g1, g2, g3⟩, lk)) ∧ k ≤ 3 ∧ lk.length ≤ 140737488355328 ∧ SrcAt b lk wr ∧ ObjAt c #[.int .i64 a, .int .i64 N, .slice d1 js.length p1, .slice d2 ns.length p2, .slice d3 ls.length p3, v1, v2, v3] 27 wr ∧ wr.ownsRow w.heap.size 9 1 v1 g1.length (cNms g1) ∧ wr.ownsRow w.heap.size 9 1 v2 g2.length (cNms g2) ∧ wr.ownsRow w.heap.size 9 1 v3 g3.length (cNms g3) ∧ Keep2 b c V wr) (fun iv _ => 3 - (intOf iv).toNat)
          case atStart => exact ⟨0, [], [], [], .slice none 0 0, .slice none 0 0, .slice none 0 0, l3, rfl, .inl ⟨rfl, rfl, rfl, rfl, rfl, rfl, rfl⟩, fun _ => HX.out, fun h => absurd h (by omega), by omega, L3, SF.out, OF.out, World.ownsRow_nil _ _ _ _, World.ownsRow_nil _ _ _ _, World.ownsRow_nil _ _ _ _, k2_refl _ _ _⟩
          case round =>
            obtain ⟨k, g1, g2, g3, v1, v2, v3, lk, rfl, HT, HE1, HE2, hk, hlk, hs, ho, m1, m2, m3, hkp⟩ := hrel
            by_cases h : (k : Int) < 3
            case pos =>
              have hst := HT.out
              have oPr := k2_obj OP.out hkp (by omega) (by omega)
              clear HT
              rcases hst with ⟨rfl, rfl, rfl, rfl, rfl, rfl, rfl⟩ | ⟨rfl, rfl, rfl, rfl, rfl⟩ | ⟨rfl, rfl, rfl⟩ | rfl
              · have hcell := objAt_cell oPr 0 rfl
                have hl0 := objAt_lt oPr
                have HT : Hid (delRW l = (bindD (rowsD 40 (textD V8)) fun g => bindD (rowsD 20 (textD V8)) fun gn => bindD (rowsD 40 (textD V8)) fun gl => pureD (⟨a, N, js, ns, ls, g, gn, gl⟩ : DelD)) lk) := (show delRW l = _ from HE1.out (by omega))
                obtain ⟨Wi, hWi⟩ : ∃ W, wr.alloc (.cells #[.int .i64 40, .int .i64 20, .int .i64 40] 3) = W := ⟨_, rfl⟩
                have bI := below_one wr (.cells #[.int .i64 40, .int .i64 20, .int .i64 40] 3)
                have oI := objAt_new wr #[.int .i64 40, .int .i64 20, .int .i64 40] 3
                obtain ⟨LI, hLI⟩ : ∃ L, wr.heap.size = L := ⟨_, rfl⟩
                rw [hWi] at bI oI
                rw [hLI] at oI
                have hcI := objAt_cell oI 0 rfl
                have lI := objAt_lt oI
                have sI : SrcAt b lk Wi := objAt_next hs bI
                have HC := Lib.hid (many40 hlk Wi sI)
                have kI : Keep2 b c V Wi := k2_trans hkp (by rw [← hWi]; exact k2_one b c wr _)
                have PP := Lib.hid (And.intro (objAt_next ho bI) (And.intro (own_next m1 bI) (And.intro (own_next m2 bI) (And.intro (own_next m3 bI) (And.intro kI sI)))))
                have HLK := Lib.hid hlk
                have hsz0 : w.heap.size ≤ wr.heap.size := by have := KF.out.size; have := hkp.size; omega
                have bI' := bI.size
                clear hs ho m1 m2 m3 hkp bI oI kI sI HE1 HE2 oPr hlk
                go_wp2_with fail
                refine HC.out.mono ?_
                rintro r w4 ⟨g4, ⟨e, he, rfl⟩ | ⟨n4, l4, hn, rfl, s4⟩⟩
                · have h1 : rowsD 40 (textD V8) lk = .inl e := bindD_err he
                  have HE : Hid (delRW l = .inl e) := by show _ = _; rw [HT.out, bindD_err h1]
                  have G := Lib.hid (k2_trans KF.out (k2_trans PP.out.2.2.2.2.1 (k2_grown g4)))
                  unfold taken
                  clear he g4 h1
                  go_wp2
                  exact ⟨rfl, G.out, .inl ⟨e, HE.out, rfl⟩⟩
                · have hn40 : n4 ≤ 40 := ((numC 40 (by omega)).sound _ _ _ hn).1
                  have HN4 := Lib.hid hn
                  have L4 := short_num (by omega) hn HLK.out
                  have o4 := obj_grown PP.out.1 g4 n3
                  have r1 := own_k2 PP.out.2.1 PP.out.2.2.2.2.2 PP.out.1 (by decide) (by decide) (k2_grown g4)
                  have r2 := own_k2 PP.out.2.2.1 PP.out.2.2.2.2.2 PP.out.1 (by decide) (by decide) (k2_grown g4)
                  have r3 := own_k2 PP.out.2.2.2.1 PP.out.2.2.2.2.2 PP.out.1 (by decide) (by decide) (k2_grown g4)
                  have k4 := k2_trans PP.out.2.2.2.2.1 (k2_grown g4)
                  have lc4 := objAt_lt o4
                  have lb4 := objAt_lt s4
                  have hsz4 : w.heap.size ≤ w4.heap.size := by have := g4.size; omega
                  have A4 := Lib.hid (And.intro s4 (And.intro o4 (And.intro r1 (And.intro r2 (And.intro r3 k4)))))
                  clear hn s4 o4 r1 r2 r3 k4 g4 HC PP hcell hl0 hcI lI
                  go_wp2
                  go_loopw [39] (fun iv wx => ∃ (i : Nat) (ys : List ByteArray) (vq : Value) (li : List UInt8), iv = .int .i64 (i : Int) ∧ i ≤ n4 ∧ ys.length = i ∧ li.length ≤ 140737488355328 ∧ SrcAt b li wx ∧ ObjAt c #[.int .i64 a, .int .i64 N, .slice d1 js.length p1, .slice d2 ns.length p2, .slice d3 ls.length p3, vq, .slice none 0 0, .slice none 0 0] 27 wx ∧ wx.ownsRow w4.heap.size 9 1 vq ys.length (cNms ys) ∧ Keep2 b c w4 wx ∧ Hid (repD (textD V8) n4 l4 = (bindD (repD (textD V8) (n4 - i)) fun zs => pureD (ys ++ zs)) li)) (fun iv _ => n4 - (intOf iv).toNat)
                  case atStart => exact ⟨0, [], .slice none 0 0, l4, rfl, Nat.zero_le _, rfl, L4, A4.out.1, A4.out.2.1, by exact World.ownsRow_nil _ _ _ _, k2_refl _ _ _, rep_start _ _ _⟩
                  case round =>
                    obtain ⟨i, ys, vq, li, rfl, hi, hyl, hli, hsi, hoi, hown, hki, HG⟩ := hrel
                    obtain ⟨qa, qc, rfl⟩ := ownRow_slice hown
                    have HYL := Lib.hid hyl
                    by_cases h2 : (i : Int) < (n4 : Int)
                    case pos =>
                      have hin : i < n4 := by omega
                      have t5 := objAt_cell hoi 5 rfl
                      have f5 := objAt_free hoi 5
                      have lS := objAt_lt hoi
                      cases hd4 : textD V8 li with
                      | inl e =>
                        have HN : Hid (∀ V, SrcAt b li V → Calls Tryd.prog 35 #[.pointer (some ⟨b, 0, none⟩)] V fun r w' => r = taken e ∧ V.grownBy w' (some b)) := by
                          intro V hV
                          refine (srcText_is hli V hV).mono ?_
                          rintro r w' ⟨g, ⟨e', he, rfl⟩ | ⟨a', l', hd', _⟩⟩
                          · rw [hd4] at he; cases he; exact ⟨rfl, g⟩
                          · rw [hd4] at hd'; cases hd'
                        have HE : Hid (delRW l = .inl e) := by
                          have h1 : rowsD 40 (textD V8) lk = .inl e := by unfold rowsD; rw [bindD_ok HN4.out]; exact rep_fail hin HG.out hd4
                          show _ = _; rw [HT.out, bindD_err h1]
                        have KX := Lib.hid (k2_trans KF.out (k2_trans A4.out.2.2.2.2.2 hki))
                        clear hd4
                        go_wp2_with fail
                        go_region_dies
                        all_goals
                          refine (HN.out wr.drew (objAt_drew hsi)).mono ?_
                          rintro r x1 ⟨rfl, g⟩
                          have G := Lib.hid (k2_trans KX.out (k2_trans (k2_drew b c wr) (k2_grown g)))
                          unfold taken
                          clear g
                          first | exact ⟨rfl, G.out, .inl ⟨e, HE.out, rfl⟩⟩ | (go_wp2; exact ⟨rfl, G.out, .inl ⟨e, HE.out, rfl⟩⟩)
                      | inr x =>
                        obtain ⟨s, l5⟩ := x
                        have HN : Hid (∀ V, SrcAt b li V → Calls Tryd.prog 35 #[.pointer (some ⟨b, 0, none⟩)] V fun r w' => r = .returned (.string s) ∧ V.grownBy w' (some b) ∧ SrcAt b l5 w') := by
                          intro V hV
                          refine (srcText_is hli V hV).mono ?_
                          rintro r w' ⟨g, ⟨e', he, rfl⟩ | ⟨a', l', hd', rfl, s'⟩⟩
                          · rw [hd4] at he; cases he
                          · rw [hd4] at hd'; cases hd'; exact ⟨rfl, g, s'⟩
                        have HG2 := Lib.hid (rep_step hin HG.out hd4)
                        have L5 := short_text hd4 hli
                        have H63 : Hid (ys.length + 1 ≤ maxLen) := (show _ ≤ _ by unfold maxLen; omega)
                        have HBY : Hid ((ys.length + 1) * 16 ≤ 140737488355328) := (show _ ≤ _ by omega)
                        have hbase := hki.size
                        clear hd4 HG hyl
                        go_wp2_with fail
                        go_region_law (first
                          | (go_simp; go_at_call 35; refine (HN.out wr.drew (objAt_drew hsi)).mono ?_; rintro r x1 ⟨rfl, g, s2⟩; have o2 := obj_grown (objAt_drew hoi) g n3; have ow2 := own_k2 (show wr.drew.ownsRow w4.heap.size 9 1 _ _ _ from hown) (objAt_drew hsi) (objAt_drew hoi) (by decide) (by decide) (k2_grown g); have k2 : Keep2 b c w4 x1 := k2_trans hki (k2_trans (k2_drew b c wr) (k2_grown g)); have hb2 := k2.size; have t5' := objAt_cell o2 5 rfl; have f5' := objAt_free o2 5; have lS' := objAt_lt o2; clear g)
                          | (refine step_app rfl _ _ 25 rfl w4.heap.size 9 i3 _ 1 16 Tryd.underlying25 Gi.out Gz0.out Gz1.out Gz2.out rfl Nat.zero_lt_one (.slice qa ys.length qc) ys.length (cNms ys) rfl (ow2.alloc (.cells #[.string s] 9)) (some ⟨x1.heap.size, 0, none⟩) 1 1 [.string s] rfl rfl (fun j u h => ⟨_, rfl, str_new' x1 s _ j u h⟩) (str_one' s) H63.out HBY.out (k2_base k2 _) ?_; intro v3_ x3 own3 hg3 _; have o3 := obj_app (objAt_next o2 (below_one x1 _)) (ow2.alloc _) lc4 hg3; have s3 := obj_app (objAt_next s2 (below_one x1 _)) (ow2.alloc _) lb4 hg3; have k3 := k2_app (k2_trans k2 (k2_one b c x1 _)) hg3 (fun k hk => (ow2.lt k hk).1); obtain ⟨ad3, cap3, rfl⟩ := ownRow_slice own3; have tN := objAt_cell o3 5 rfl; have fN := objAt_free o3 5; have lN := objAt_lt o3; have Q := Lib.hid (And.intro o3 (And.intro s3 (And.intro k3 own3))); clear o3 s3 k3 own3 hg3))
                        all_goals
                          go_wp2
                          go_roundw
                          case rel =>
                            obtain ⟨o3, s3, k3, own3⟩ := Q.out
                            exact ⟨i + 1, ys ++ [s], .slice ad3 (ys.length + 1) cap3, l5, by simp, by omega, by rw [List.length_append, HYL.out]; rfl, L5, src_other s3 n3' 5 _, objAt_set o3 5 _, by rw [List.length_append, cNms_append]; exact own_box own3 o3 (by decide) 5 _, k2_trans k3 (k2_set b c _ 5 _), HG2.out⟩
                          case measure => simp [intOf]; omega
                    case neg =>
                      obtain rfl : i = n4 := by omega
                      have R : Hid (rowsD 40 (textD V8) lk = .inr (ys, li)) := by show _ = _; unfold rowsD; rw [bindD_ok HN4.out]; exact rep_end HG.out
                      have z2 := own_k2 A4.out.2.2.2.1 A4.out.1 A4.out.2.1 (by decide) (by decide) hki
                      have z3 := own_k2 A4.out.2.2.2.2.1 A4.out.1 A4.out.2.1 (by decide) (by decide) hki
                      have z1 := ownsRow_low (B' := w.heap.size) hown hsz4
                      have kk := k2_trans A4.out.2.2.2.2.2 hki
                      have Q := Lib.hid (And.intro hsi (And.intro hoi (And.intro z1 (And.intro z2 (And.intro z3 kk)))))
                      have HLI := Lib.hid hli
                      clear hsi hoi z1 z2 z3 kk hown hki HG hyl hli h2 hi
                      go_wp2
                      go_roundw
                      case rel =>
                        exact ⟨1, ys, [], [], .slice qa ys.length qc, .slice none 0 0, .slice none 0 0, li, by simp, .inr (.inl ⟨rfl, rfl, rfl, rfl, rfl⟩), fun _ => by rw [HT.out, bindD_ok R.out]; rfl, fun h => absurd h (by omega), by omega, HLI.out, Q.out.1, Q.out.2.1, Q.out.2.2.1, Q.out.2.2.2.1, Q.out.2.2.2.2.1, Q.out.2.2.2.2.2⟩
                      case measure => simp [intOf]
              · have hcell := objAt_cell oPr 1 rfl
                have hl0 := objAt_lt oPr
                have HT : Hid (delRW l = (bindD (rowsD 20 (textD V8)) fun g => bindD (rowsD 40 (textD V8)) fun gl => pureD (⟨a, N, js, ns, ls, g1, g, gl⟩ : DelD)) lk) := (show delRW l = _ from HE1.out (by omega))
                obtain ⟨Wi, hWi⟩ : ∃ W, wr.alloc (.cells #[.int .i64 40, .int .i64 20, .int .i64 40] 3) = W := ⟨_, rfl⟩
                have bI := below_one wr (.cells #[.int .i64 40, .int .i64 20, .int .i64 40] 3)
                have oI := objAt_new wr #[.int .i64 40, .int .i64 20, .int .i64 40] 3
                obtain ⟨LI, hLI⟩ : ∃ L, wr.heap.size = L := ⟨_, rfl⟩
                rw [hWi] at bI oI
                rw [hLI] at oI
                have hcI := objAt_cell oI 1 rfl
                have lI := objAt_lt oI
                have sI : SrcAt b lk Wi := objAt_next hs bI
                have HC := Lib.hid (many20 hlk Wi sI)
                have kI : Keep2 b c V Wi := k2_trans hkp (by rw [← hWi]; exact k2_one b c wr _)
                have PP := Lib.hid (And.intro (objAt_next ho bI) (And.intro (own_next m1 bI) (And.intro (own_next m2 bI) (And.intro (own_next m3 bI) (And.intro kI sI)))))
                have HLK := Lib.hid hlk
                have hsz0 : w.heap.size ≤ wr.heap.size := by have := KF.out.size; have := hkp.size; omega
                have bI' := bI.size
                clear hs ho m1 m2 m3 hkp bI oI kI sI HE1 HE2 oPr hlk
                go_wp2_with fail
                refine HC.out.mono ?_
                rintro r w4 ⟨g4, ⟨e, he, rfl⟩ | ⟨n4, l4, hn, rfl, s4⟩⟩
                · have h1 : rowsD 20 (textD V8) lk = .inl e := bindD_err he
                  have HE : Hid (delRW l = .inl e) := by show _ = _; rw [HT.out, bindD_err h1]
                  have G := Lib.hid (k2_trans KF.out (k2_trans PP.out.2.2.2.2.1 (k2_grown g4)))
                  unfold taken
                  clear he g4 h1
                  go_wp2
                  exact ⟨rfl, G.out, .inl ⟨e, HE.out, rfl⟩⟩
                · have hn40 : n4 ≤ 20 := ((numC 20 (by omega)).sound _ _ _ hn).1
                  have HN4 := Lib.hid hn
                  have L4 := short_num (by omega) hn HLK.out
                  have o4 := obj_grown PP.out.1 g4 n3
                  have r1 := own_k2 PP.out.2.1 PP.out.2.2.2.2.2 PP.out.1 (by decide) (by decide) (k2_grown g4)
                  have r2 := own_k2 PP.out.2.2.1 PP.out.2.2.2.2.2 PP.out.1 (by decide) (by decide) (k2_grown g4)
                  have r3 := own_k2 PP.out.2.2.2.1 PP.out.2.2.2.2.2 PP.out.1 (by decide) (by decide) (k2_grown g4)
                  have k4 := k2_trans PP.out.2.2.2.2.1 (k2_grown g4)
                  have lc4 := objAt_lt o4
                  have lb4 := objAt_lt s4
                  have hsz4 : w.heap.size ≤ w4.heap.size := by have := g4.size; omega
                  have A4 := Lib.hid (And.intro s4 (And.intro o4 (And.intro r1 (And.intro r2 (And.intro r3 k4)))))
                  clear hn s4 o4 r1 r2 r3 k4 g4 HC PP hcell hl0 hcI lI
                  go_wp2
                  go_loopw [39] (fun iv wx => ∃ (i : Nat) (ys : List ByteArray) (vq : Value) (li : List UInt8), iv = .int .i64 (i : Int) ∧ i ≤ n4 ∧ ys.length = i ∧ li.length ≤ 140737488355328 ∧ SrcAt b li wx ∧ ObjAt c #[.int .i64 a, .int .i64 N, .slice d1 js.length p1, .slice d2 ns.length p2, .slice d3 ls.length p3, v1, vq, .slice none 0 0] 27 wx ∧ wx.ownsRow w4.heap.size 9 1 vq ys.length (cNms ys) ∧ Keep2 b c w4 wx ∧ Hid (repD (textD V8) n4 l4 = (bindD (repD (textD V8) (n4 - i)) fun zs => pureD (ys ++ zs)) li)) (fun iv _ => n4 - (intOf iv).toNat)
                  case atStart => exact ⟨0, [], .slice none 0 0, l4, rfl, Nat.zero_le _, rfl, L4, A4.out.1, A4.out.2.1, by exact World.ownsRow_nil _ _ _ _, k2_refl _ _ _, rep_start _ _ _⟩
                  case round =>
                    obtain ⟨i, ys, vq, li, rfl, hi, hyl, hli, hsi, hoi, hown, hki, HG⟩ := hrel
                    obtain ⟨qa, qc, rfl⟩ := ownRow_slice hown
                    have HYL := Lib.hid hyl
                    by_cases h2 : (i : Int) < (n4 : Int)
                    case pos =>
                      have hin : i < n4 := by omega
                      have t6 := objAt_cell hoi 6 rfl
                      have f6 := objAt_free hoi 6
                      have lS := objAt_lt hoi
                      cases hd4 : textD V8 li with
                      | inl e =>
                        have HN : Hid (∀ V, SrcAt b li V → Calls Tryd.prog 35 #[.pointer (some ⟨b, 0, none⟩)] V fun r w' => r = taken e ∧ V.grownBy w' (some b)) := by
                          intro V hV
                          refine (srcText_is hli V hV).mono ?_
                          rintro r w' ⟨g, ⟨e', he, rfl⟩ | ⟨a', l', hd', _⟩⟩
                          · rw [hd4] at he; cases he; exact ⟨rfl, g⟩
                          · rw [hd4] at hd'; cases hd'
                        have HE : Hid (delRW l = .inl e) := by
                          have h1 : rowsD 20 (textD V8) lk = .inl e := by unfold rowsD; rw [bindD_ok HN4.out]; exact rep_fail hin HG.out hd4
                          show _ = _; rw [HT.out, bindD_err h1]
                        have KX := Lib.hid (k2_trans KF.out (k2_trans A4.out.2.2.2.2.2 hki))
                        clear hd4
                        go_wp2_with fail
                        go_region_dies
                        all_goals
                          refine (HN.out wr.drew (objAt_drew hsi)).mono ?_
                          rintro r x1 ⟨rfl, g⟩
                          have G := Lib.hid (k2_trans KX.out (k2_trans (k2_drew b c wr) (k2_grown g)))
                          unfold taken
                          clear g
                          first | exact ⟨rfl, G.out, .inl ⟨e, HE.out, rfl⟩⟩ | (go_wp2; exact ⟨rfl, G.out, .inl ⟨e, HE.out, rfl⟩⟩)
                      | inr x =>
                        obtain ⟨s, l5⟩ := x
                        have HN : Hid (∀ V, SrcAt b li V → Calls Tryd.prog 35 #[.pointer (some ⟨b, 0, none⟩)] V fun r w' => r = .returned (.string s) ∧ V.grownBy w' (some b) ∧ SrcAt b l5 w') := by
                          intro V hV
                          refine (srcText_is hli V hV).mono ?_
                          rintro r w' ⟨g, ⟨e', he, rfl⟩ | ⟨a', l', hd', rfl, s'⟩⟩
                          · rw [hd4] at he; cases he
                          · rw [hd4] at hd'; cases hd'; exact ⟨rfl, g, s'⟩
                        have HG2 := Lib.hid (rep_step hin HG.out hd4)
                        have L5 := short_text hd4 hli
                        have H63 : Hid (ys.length + 1 ≤ maxLen) := (show _ ≤ _ by unfold maxLen; omega)
                        have HBY : Hid ((ys.length + 1) * 16 ≤ 140737488355328) := (show _ ≤ _ by omega)
                        have hbase := hki.size
                        clear hd4 HG hyl
                        go_wp2_with fail
                        go_region_law (first
                          | (go_simp; go_at_call 35; refine (HN.out wr.drew (objAt_drew hsi)).mono ?_; rintro r x1 ⟨rfl, g, s2⟩; have o2 := obj_grown (objAt_drew hoi) g n3; have ow2 := own_k2 (show wr.drew.ownsRow w4.heap.size 9 1 _ _ _ from hown) (objAt_drew hsi) (objAt_drew hoi) (by decide) (by decide) (k2_grown g); have k2 : Keep2 b c w4 x1 := k2_trans hki (k2_trans (k2_drew b c wr) (k2_grown g)); have hb2 := k2.size; have t6' := objAt_cell o2 6 rfl; have f6' := objAt_free o2 6; have lS' := objAt_lt o2; clear g)
                          | (refine step_app rfl _ _ 25 rfl w4.heap.size 9 i3 _ 1 16 Tryd.underlying25 Gi.out Gz0.out Gz1.out Gz2.out rfl Nat.zero_lt_one (.slice qa ys.length qc) ys.length (cNms ys) rfl (ow2.alloc (.cells #[.string s] 9)) (some ⟨x1.heap.size, 0, none⟩) 1 1 [.string s] rfl rfl (fun j u h => ⟨_, rfl, str_new' x1 s _ j u h⟩) (str_one' s) H63.out HBY.out (k2_base k2 _) ?_; intro v3_ x3 own3 hg3 _; have o3 := obj_app (objAt_next o2 (below_one x1 _)) (ow2.alloc _) lc4 hg3; have s3 := obj_app (objAt_next s2 (below_one x1 _)) (ow2.alloc _) lb4 hg3; have k3 := k2_app (k2_trans k2 (k2_one b c x1 _)) hg3 (fun k hk => (ow2.lt k hk).1); obtain ⟨ad3, cap3, rfl⟩ := ownRow_slice own3; have tN := objAt_cell o3 6 rfl; have fN := objAt_free o3 6; have lN := objAt_lt o3; have Q := Lib.hid (And.intro o3 (And.intro s3 (And.intro k3 own3))); clear o3 s3 k3 own3 hg3))
                        all_goals
                          go_wp2
                          go_roundw
                          case rel =>
                            obtain ⟨o3, s3, k3, own3⟩ := Q.out
                            exact ⟨i + 1, ys ++ [s], .slice ad3 (ys.length + 1) cap3, l5, by simp, by omega, by rw [List.length_append, HYL.out]; rfl, L5, src_other s3 n3' 6 _, objAt_set o3 6 _, by rw [List.length_append, cNms_append]; exact own_box own3 o3 (by decide) 6 _, k2_trans k3 (k2_set b c _ 6 _), HG2.out⟩
                          case measure => simp [intOf]; omega
                    case neg =>
                      obtain rfl : i = n4 := by omega
                      have R : Hid (rowsD 20 (textD V8) lk = .inr (ys, li)) := by show _ = _; unfold rowsD; rw [bindD_ok HN4.out]; exact rep_end HG.out
                      have z1 := own_k2 A4.out.2.2.1 A4.out.1 A4.out.2.1 (by decide) (by decide) hki
                      have z3 := own_k2 A4.out.2.2.2.2.1 A4.out.1 A4.out.2.1 (by decide) (by decide) hki
                      have z2 := ownsRow_low (B' := w.heap.size) hown hsz4
                      have kk := k2_trans A4.out.2.2.2.2.2 hki
                      have Q := Lib.hid (And.intro hsi (And.intro hoi (And.intro z1 (And.intro z2 (And.intro z3 kk)))))
                      have HLI := Lib.hid hli
                      clear hsi hoi z1 z2 z3 kk hown hki HG hyl hli h2 hi
                      go_wp2
                      go_roundw
                      case rel =>
                        exact ⟨2, g1, ys, [], v1, .slice qa ys.length qc, .slice none 0 0, li, by simp, .inr (.inr (.inl ⟨rfl, rfl, rfl⟩)), fun _ => by rw [HT.out, bindD_ok R.out]; rfl, fun h => absurd h (by omega), by omega, HLI.out, Q.out.1, Q.out.2.1, Q.out.2.2.1, Q.out.2.2.2.1, Q.out.2.2.2.2.1, Q.out.2.2.2.2.2⟩
                      case measure => simp [intOf]
              · have hcell := objAt_cell oPr 2 rfl
                have hl0 := objAt_lt oPr
                have HT : Hid (delRW l = (bindD (rowsD 40 (textD V8)) fun g => pureD (⟨a, N, js, ns, ls, g1, g2, g⟩ : DelD)) lk) := (show delRW l = _ from HE1.out (by omega))
                obtain ⟨Wi, hWi⟩ : ∃ W, wr.alloc (.cells #[.int .i64 40, .int .i64 20, .int .i64 40] 3) = W := ⟨_, rfl⟩
                have bI := below_one wr (.cells #[.int .i64 40, .int .i64 20, .int .i64 40] 3)
                have oI := objAt_new wr #[.int .i64 40, .int .i64 20, .int .i64 40] 3
                obtain ⟨LI, hLI⟩ : ∃ L, wr.heap.size = L := ⟨_, rfl⟩
                rw [hWi] at bI oI
                rw [hLI] at oI
                have hcI := objAt_cell oI 2 rfl
                have lI := objAt_lt oI
                have sI : SrcAt b lk Wi := objAt_next hs bI
                have HC := Lib.hid (many40 hlk Wi sI)
                have kI : Keep2 b c V Wi := k2_trans hkp (by rw [← hWi]; exact k2_one b c wr _)
                have PP := Lib.hid (And.intro (objAt_next ho bI) (And.intro (own_next m1 bI) (And.intro (own_next m2 bI) (And.intro (own_next m3 bI) (And.intro kI sI)))))
                have HLK := Lib.hid hlk
                have hsz0 : w.heap.size ≤ wr.heap.size := by have := KF.out.size; have := hkp.size; omega
                have bI' := bI.size
                clear hs ho m1 m2 m3 hkp bI oI kI sI HE1 HE2 oPr hlk
                go_wp2_with fail
                refine HC.out.mono ?_
                rintro r w4 ⟨g4, ⟨e, he, rfl⟩ | ⟨n4, l4, hn, rfl, s4⟩⟩
                · have h1 : rowsD 40 (textD V8) lk = .inl e := bindD_err he
                  have HE : Hid (delRW l = .inl e) := by show _ = _; rw [HT.out, bindD_err h1]
                  have G := Lib.hid (k2_trans KF.out (k2_trans PP.out.2.2.2.2.1 (k2_grown g4)))
                  unfold taken
                  clear he g4 h1
                  go_wp2
                  exact ⟨rfl, G.out, .inl ⟨e, HE.out, rfl⟩⟩
                · have hn40 : n4 ≤ 40 := ((numC 40 (by omega)).sound _ _ _ hn).1
                  have HN4 := Lib.hid hn
                  have L4 := short_num (by omega) hn HLK.out
                  have o4 := obj_grown PP.out.1 g4 n3
                  have r1 := own_k2 PP.out.2.1 PP.out.2.2.2.2.2 PP.out.1 (by decide) (by decide) (k2_grown g4)
                  have r2 := own_k2 PP.out.2.2.1 PP.out.2.2.2.2.2 PP.out.1 (by decide) (by decide) (k2_grown g4)
                  have r3 := own_k2 PP.out.2.2.2.1 PP.out.2.2.2.2.2 PP.out.1 (by decide) (by decide) (k2_grown g4)
                  have k4 := k2_trans PP.out.2.2.2.2.1 (k2_grown g4)
                  have lc4 := objAt_lt o4
                  have lb4 := objAt_lt s4
                  have hsz4 : w.heap.size ≤ w4.heap.size := by have := g4.size; omega
                  have A4 := Lib.hid (And.intro s4 (And.intro o4 (And.intro r1 (And.intro r2 (And.intro r3 k4)))))
                  clear hn s4 o4 r1 r2 r3 k4 g4 HC PP hcell hl0 hcI lI
                  go_wp2
                  go_loopw [39] (fun iv wx => ∃ (i : Nat) (ys : List ByteArray) (vq : Value) (li : List UInt8), iv = .int .i64 (i : Int) ∧ i ≤ n4 ∧ ys.length = i ∧ li.length ≤ 140737488355328 ∧ SrcAt b li wx ∧ ObjAt c #[.int .i64 a, .int .i64 N, .slice d1 js.length p1, .slice d2 ns.length p2, .slice d3 ls.length p3, v1, v2, vq] 27 wx ∧ wx.ownsRow w4.heap.size 9 1 vq ys.length (cNms ys) ∧ Keep2 b c w4 wx ∧ Hid (repD (textD V8) n4 l4 = (bindD (repD (textD V8) (n4 - i)) fun zs => pureD (ys ++ zs)) li)) (fun iv _ => n4 - (intOf iv).toNat)
                  case atStart => exact ⟨0, [], .slice none 0 0, l4, rfl, Nat.zero_le _, rfl, L4, A4.out.1, A4.out.2.1, by exact World.ownsRow_nil _ _ _ _, k2_refl _ _ _, rep_start _ _ _⟩
                  case round =>
                    obtain ⟨i, ys, vq, li, rfl, hi, hyl, hli, hsi, hoi, hown, hki, HG⟩ := hrel
                    obtain ⟨qa, qc, rfl⟩ := ownRow_slice hown
                    have HYL := Lib.hid hyl
                    by_cases h2 : (i : Int) < (n4 : Int)
                    case pos =>
                      have hin : i < n4 := by omega
                      have t7 := objAt_cell hoi 7 rfl
                      have f7 := objAt_free hoi 7
                      have lS := objAt_lt hoi
                      cases hd4 : textD V8 li with
                      | inl e =>
                        have HN : Hid (∀ V, SrcAt b li V → Calls Tryd.prog 35 #[.pointer (some ⟨b, 0, none⟩)] V fun r w' => r = taken e ∧ V.grownBy w' (some b)) := by
                          intro V hV
                          refine (srcText_is hli V hV).mono ?_
                          rintro r w' ⟨g, ⟨e', he, rfl⟩ | ⟨a', l', hd', _⟩⟩
                          · rw [hd4] at he; cases he; exact ⟨rfl, g⟩
                          · rw [hd4] at hd'; cases hd'
                        have HE : Hid (delRW l = .inl e) := by
                          have h1 : rowsD 40 (textD V8) lk = .inl e := by unfold rowsD; rw [bindD_ok HN4.out]; exact rep_fail hin HG.out hd4
                          show _ = _; rw [HT.out, bindD_err h1]
                        have KX := Lib.hid (k2_trans KF.out (k2_trans A4.out.2.2.2.2.2 hki))
                        clear hd4
                        go_wp2_with fail
                        go_region_dies
                        all_goals
                          refine (HN.out wr.drew (objAt_drew hsi)).mono ?_
                          rintro r x1 ⟨rfl, g⟩
                          have G := Lib.hid (k2_trans KX.out (k2_trans (k2_drew b c wr) (k2_grown g)))
                          unfold taken
                          clear g
                          first | exact ⟨rfl, G.out, .inl ⟨e, HE.out, rfl⟩⟩ | (go_wp2; exact ⟨rfl, G.out, .inl ⟨e, HE.out, rfl⟩⟩)
                      | inr x =>
                        obtain ⟨s, l5⟩ := x
                        have HN : Hid (∀ V, SrcAt b li V → Calls Tryd.prog 35 #[.pointer (some ⟨b, 0, none⟩)] V fun r w' => r = .returned (.string s) ∧ V.grownBy w' (some b) ∧ SrcAt b l5 w') := by
                          intro V hV
                          refine (srcText_is hli V hV).mono ?_
                          rintro r w' ⟨g, ⟨e', he, rfl⟩ | ⟨a', l', hd', rfl, s'⟩⟩
                          · rw [hd4] at he; cases he
                          · rw [hd4] at hd'; cases hd'; exact ⟨rfl, g, s'⟩
                        have HG2 := Lib.hid (rep_step hin HG.out hd4)
                        have L5 := short_text hd4 hli
                        have H63 : Hid (ys.length + 1 ≤ maxLen) := (show _ ≤ _ by unfold maxLen; omega)
                        have HBY : Hid ((ys.length + 1) * 16 ≤ 140737488355328) := (show _ ≤ _ by omega)
                        have hbase := hki.size
                        clear hd4 HG hyl
                        go_wp2_with fail
                        go_region_law (first
                          | (go_simp; go_at_call 35; refine (HN.out wr.drew (objAt_drew hsi)).mono ?_; rintro r x1 ⟨rfl, g, s2⟩; have o2 := obj_grown (objAt_drew hoi) g n3; have ow2 := own_k2 (show wr.drew.ownsRow w4.heap.size 9 1 _ _ _ from hown) (objAt_drew hsi) (objAt_drew hoi) (by decide) (by decide) (k2_grown g); have k2 : Keep2 b c w4 x1 := k2_trans hki (k2_trans (k2_drew b c wr) (k2_grown g)); have hb2 := k2.size; have t7' := objAt_cell o2 7 rfl; have f7' := objAt_free o2 7; have lS' := objAt_lt o2; clear g)
                          | (refine step_app rfl _ _ 25 rfl w4.heap.size 9 i3 _ 1 16 Tryd.underlying25 Gi.out Gz0.out Gz1.out Gz2.out rfl Nat.zero_lt_one (.slice qa ys.length qc) ys.length (cNms ys) rfl (ow2.alloc (.cells #[.string s] 9)) (some ⟨x1.heap.size, 0, none⟩) 1 1 [.string s] rfl rfl (fun j u h => ⟨_, rfl, str_new' x1 s _ j u h⟩) (str_one' s) H63.out HBY.out (k2_base k2 _) ?_; intro v3_ x3 own3 hg3 _; have o3 := obj_app (objAt_next o2 (below_one x1 _)) (ow2.alloc _) lc4 hg3; have s3 := obj_app (objAt_next s2 (below_one x1 _)) (ow2.alloc _) lb4 hg3; have k3 := k2_app (k2_trans k2 (k2_one b c x1 _)) hg3 (fun k hk => (ow2.lt k hk).1); obtain ⟨ad3, cap3, rfl⟩ := ownRow_slice own3; have tN := objAt_cell o3 7 rfl; have fN := objAt_free o3 7; have lN := objAt_lt o3; have Q := Lib.hid (And.intro o3 (And.intro s3 (And.intro k3 own3))); clear o3 s3 k3 own3 hg3))
                        all_goals
                          go_wp2
                          go_roundw
                          case rel =>
                            obtain ⟨o3, s3, k3, own3⟩ := Q.out
                            exact ⟨i + 1, ys ++ [s], .slice ad3 (ys.length + 1) cap3, l5, by simp, by omega, by rw [List.length_append, HYL.out]; rfl, L5, src_other s3 n3' 7 _, objAt_set o3 7 _, by rw [List.length_append, cNms_append]; exact own_box own3 o3 (by decide) 7 _, k2_trans k3 (k2_set b c _ 7 _), HG2.out⟩
                          case measure => simp [intOf]; omega
                    case neg =>
                      obtain rfl : i = n4 := by omega
                      have R : Hid (rowsD 40 (textD V8) lk = .inr (ys, li)) := by show _ = _; unfold rowsD; rw [bindD_ok HN4.out]; exact rep_end HG.out
                      have z1 := own_k2 A4.out.2.2.1 A4.out.1 A4.out.2.1 (by decide) (by decide) hki
                      have z2 := own_k2 A4.out.2.2.2.1 A4.out.1 A4.out.2.1 (by decide) (by decide) hki
                      have z3 := ownsRow_low (B' := w.heap.size) hown hsz4
                      have kk := k2_trans A4.out.2.2.2.2.2 hki
                      have Q := Lib.hid (And.intro hsi (And.intro hoi (And.intro z1 (And.intro z2 (And.intro z3 kk)))))
                      have HLI := Lib.hid hli
                      clear hsi hoi z1 z2 z3 kk hown hki HG hyl hli h2 hi
                      go_wp2
                      go_roundw
                      case rel =>
                        exact ⟨3, g1, g2, ys, v1, v2, .slice qa ys.length qc, li, by simp, .inr (.inr (.inr rfl)), fun h => absurd h (by omega), fun _ => by rw [HT.out, bindD_ok R.out]; rfl, by omega, HLI.out, Q.out.1, Q.out.2.1, Q.out.2.2.1, Q.out.2.2.2.1, Q.out.2.2.2.2.1, Q.out.2.2.2.2.2⟩
                      case measure => simp [intOf]
              · exact absurd h (by omega)
            case neg =>
              obtain rfl : k = 3 := by omega
              obtain ⟨x1, c1, rfl⟩ := ownRow_slice m1
              obtain ⟨x2, c2, rfl⟩ := ownRow_slice m2
              obtain ⟨x3, c3, rfl⟩ := ownRow_slice m3
              have q1 := own_k2 R1.out SF.out OF.out (by decide) (by decide) hkp
              have q2 := own_k2 R2.out SF.out OF.out (by decide) (by decide) hkp
              have q3 := own_k2 R3.out SF.out OF.out (by decide) (by decide) hkp
              have HE := Lib.hid (HE2.out rfl)
              have Q : Hid (DBodyP b c l w (.returned (.tuple #[])) wr) := (show DBodyP b c l w (.returned (.tuple #[])) wr from ⟨k2_trans KF.out hkp, .inr ⟨⟨a, N, js, ns, ls, g1, g2, g3⟩, lk, ⟨d1, p1, d2, p2, d3, p3, x1, c1, x2, c2, x3, c3⟩, HE.out, rfl, ho, ⟨q1, q2, q3, m1, m2, m3⟩, hs⟩⟩)
              clear q1 q2 q3 m1 m2 m3 ho hs hkp HT HE1 HE2 hk h hlk
              go_wp2
              first | go_end0 | refine bodyPost_ret (results_none rfl _ _ _) rfl ?_
              exact Q.out
end Go.Proofs.YthfbjmjohmkfjaaDoor
