/- The reference's UpBytes. -/
import Derived.Test.YtclopkpfeofjmaaGreatDoorUpRefSt
import Derived.Test.YtclopkpfeofjmaaGreatDoorWiRDec
import Derived.Test.YtclopkpfeofjmaaGreatDoorWiRRows
namespace Go.Proofs.YtclopkpfeofjmaaGreatDoor
open Go.RowKit

theorem ub_dec {l : List UInt8} {a b : Int} {t : StD} (h : okUp a b = true) (hd : wdecR a l = (t, 0)) : ubR l a b = wencR (upS a b t) b ∧ checkE V8 t = 0 := by
  have hab := (okUp_iff a b).1 h
  have hd' := hd
  unfold wdecR at hd'
  rw [if_pos (by omega)] at hd'
  obtain ⟨hc, hf, _⟩ := wire_ok hd'
  refine ⟨?_, hc⟩
  unfold ubR
  rw [if_pos h, hd]
  simp only
  rw [upR_fit hc hab hf]
  simp
theorem ub_err {l : List UInt8} {a b : Int} {t : StD} {c : Nat} (h : okUp a b = true) (hd : wdecR a l = (t, c)) (hc : c ≠ 0) : ubR l a b = (⟨#[]⟩, c) := by
  unfold ubR
  rw [if_pos h, hd]
  simp only
  rw [if_pos hc]
theorem ub_out {l : List UInt8} {a b : Int} (h : okUp a b = false) : ubR l a b = (⟨#[]⟩, 1) := by unfold ubR; rw [h]; rfl
set_option maxRecDepth 100000 in
set_option maxHeartbeats 4000000 in
theorem rubytes_any (s : ByteArray) (hs : s.size ≤ 140737488355328) (a b : Int) (w : World) :
    Calls Tryz.prog 6 #[.string s, .int .i64 a, .int .i64 b] w fun e w' => e = .returned (.tuple #[.string (ubR s.data.toList a b).1, .int .i64 ((ubR s.data.toList a b).2 : Nat)]) ∧ Below w.heap.size w w' := by
  have HO1 := Lib.hid (fun w => outside_is a 1 b w)
  have HO2 := Lib.hid (fun w => outside_is b 1 3 w)
  have hin := okUp_in a b
  cases h1 : inR a 1 b with
  | false =>
    rw [h1, Bool.false_and] at hin
    rw [ub_out hin]
    rw [h1] at HO1
    clear hin h1
    go_enter Tryz.func6, Tryz.ntmps6
    go_wp2_with fail
    refine (HO1.out _).mono ?_
    rintro e w' ⟨rfl, rfl⟩
    go_wp2
    go_ret2
    exact ⟨rfl, Below.refl _ _⟩
  | true =>
    rw [h1] at HO1
    cases h2 : inR b 1 3 with
    | false =>
      rw [h1, h2, Bool.and_false] at hin
      rw [ub_out hin]
      rw [h2] at HO2
      clear hin h1 h2
      go_enter Tryz.func6, Tryz.ntmps6
      go_wp2_with fail
      refine (HO1.out _).mono ?_
      rintro e w' ⟨rfl, rfl⟩
      go_wp2_with fail
      refine (HO2.out _).mono ?_
      rintro e w' ⟨rfl, rfl⟩
      go_wp2
      go_ret2
      exact ⟨rfl, Below.refl _ _⟩
    | true =>
      rw [h2] at HO2
      rw [h1, h2, Bool.and_true] at hin
      have hab := (okUp_iff a b).1 hin
      have HD := rdecodeS_any s hs a w
      obtain ⟨Q, hQ⟩ : ∃ Q, wdecR a s.data.toList = Q := ⟨_, rfl⟩
      obtain ⟨t, c⟩ := Q
      rw [hQ] at HD
      simp only at HD
      have HD := Lib.hid HD
      clear h1 h2 hs
      by_cases hc : c ≠ 0
      · rw [ub_err hin hQ hc]
        have hc' : ((c : Int) != 0) = true := by simp; omega
        clear hc hin hQ
        go_enter Tryz.func6, Tryz.ntmps6
        go_wp2_with fail
        refine (HO1.out _).mono ?_
        rintro e w' ⟨rfl, rfl⟩
        go_wp2_with fail
        refine (HO2.out _).mono ?_
        rintro e w' ⟨rfl, rfl⟩
        go_wp2_with fail
        refine HD.out.mono ?_
        rintro e w1 ⟨aj, an, al, cj, cn, cl, rfl, oj, on, ol, b1⟩
        have bA := below_one w1 (.cells #[.int .i64 t.rev, .slice aj t.jobs.length cj, .slice an t.nodes.length cn, .slice al t.leases.length cl] 30)
        have BA := Lib.hid (below_trans b1 bA b1.size)
        clear bA b1 oj on ol
        go_wp2
        go_ret2
        exact ⟨rfl, BA.out⟩
      · have hc0 : c = 0 := by simpa using hc
        subst hc0
        obtain ⟨e1, hck⟩ := ub_dec hin hQ
        rw [e1]
        obtain ⟨hl, _⟩ := small_valid hck
        have HU0 := Lib.hid (fun aj an al cj cn cl w1 h => rup_any t aj an al cj cn cl a b hab hl w1 (And.left h) (And.left (And.right h)) (And.right (And.right h)))
        obtain ⟨u, hu⟩ : ∃ u, upS a b t = u := ⟨_, rfl⟩
        rw [hu] at HU0 ⊢
        clear hu hc hin hQ e1 hck
        go_enter Tryz.func6, Tryz.ntmps6
        go_wp2_with fail
        refine (HO1.out _).mono ?_
        rintro e w' ⟨rfl, rfl⟩
        go_wp2_with fail
        refine (HO2.out _).mono ?_
        rintro e w' ⟨rfl, rfl⟩
        go_wp2_with fail
        refine HD.out.mono ?_
        rintro e w1 ⟨aj, an, al, cj, cn, cl, rfl, oj, on, ol, b1⟩
        obtain ⟨W1, hW1⟩ : ∃ W1, w1.alloc (.cells #[.int .i64 t.rev, .slice aj t.jobs.length cj, .slice an t.nodes.length cn, .slice al t.leases.length cl] 30) = W1 := ⟨_, rfl⟩
        have bA := below_one w1 (.cells #[.int .i64 t.rev, .slice aj t.jobs.length cj, .slice an t.nodes.length cn, .slice al t.leases.length cl] 30)
        have ib := inBox_new (cj := cj) (cn := cn) (cl := cl) ⟨ownJobs oj rfl, ownNodes on rfl, ownLeases ol rfl⟩
        rw [hW1] at bA ib
        have BA := Lib.hid (below_trans b1 bA b1.size)
        obtain ⟨c0, c1, c2, c3⟩ := inBox_cells ib
        have HU1 := Lib.hid (HU0.out aj an al cj cn cl W1 ib.2)
        clear bA b1 oj on ol ib
        go_wp2_with fail
        refine HU1.out.mono ?_
        rintro e w2 ⟨bj, bn, bl, dj, dn, dl, rfl, ow2, b2⟩
        have B2 := Lib.hid (below_trans BA.out b2 BA.out.size)
        have HE := Lib.hid (rencodeS_any u bj bn bl dj dn dl b w2 (ownS_at ow2).1 (ownS_at ow2).2.1 (ownS_at ow2).2.2)
        clear c0 c1 c2 c3 b2 ow2 HU1
        go_wp2_with fail
        refine HE.out.mono ?_
        rintro e w3 ⟨rfl, b3⟩
        have B3 := Lib.hid (below_trans B2.out b3 B2.out.size)
        clear b3
        go_wp2
        go_ret2
        exact ⟨rfl, B3.out⟩
end Go.Proofs.YtclopkpfeofjmaaGreatDoor
