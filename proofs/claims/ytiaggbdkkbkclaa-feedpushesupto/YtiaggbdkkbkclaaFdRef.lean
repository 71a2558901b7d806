import Derived.Test.YtiaggbdkkbkclaaFdAll
import Derived.Test.YtiaggbdkkbkclaaFrRefDec2
namespace Go.Proofs.Ytiaggbdkkbkclaa
open Go.RowKit

set_option maxRecDepth 100000 in
set_option maxHeartbeats 1000000 in
theorem frames_is (s : ByteArray) (hs : s.size ≤ 281474976710656) (fs : List Fr) (q : List UInt8) (c : Nat) (h : Split s.data.toList fs q c) (hfs : fs.length * 32 ≤ 140737488355328) (w : World) :
    Calls Try.prog 10 #[.string s] w fun e w' => ∃ v, e = .returned (.tuple #[v, .int .i64 ((encs fs).length : Int), .int .i64 (c : Int)]) ∧ w'.ownsRow w.heap.size 33 3 v fs.length (frCells fs) ∧ Below w.heap.size w w' := by
  obtain ⟨i0, hi, hz0, hz1, hz2⟩ := info_parts Try.infoFrame
  have Hi := Lib.hid hi
  have Hz0 := Lib.hid hz0
  have Hz1 := Lib.hid hz1
  have Hz2 := Lib.hid hz2
  clear hi hz0 hz1 hz2
  have HS := Lib.hid h
  have HF := Lib.hid hfs
  clear h hfs
  go_enter Try.func10, Try.ntmps10
  go_wp2
  go_loopw [5, 6] (fun v av wr => ∃ (done todo : List Fr) (A : Nat), av = .int .i64 (A : Int) ∧ Hid (A = (encs done).length ∧ fs = done ++ todo) ∧ A ≤ s.size ∧ wr.ownsRow w.heap.size 33 3 v done.length (frCells done) ∧ Below w.heap.size w wr) (fun _ av _ => s.size - (intOf av).toNat)
  case atStart => exact ⟨[], fs, 0, rfl, ⟨rfl, rfl⟩, by omega, World.ownsRow_nil _ _ _ _, Below.refl _ _⟩
  case round =>
    obtain ⟨done, todo, A, rfl, HA, hAs, hown, hbel⟩ := hrel
    have hAi : (A : Int) ≤ (s.size : Int) := by omega
    obtain ⟨T, hT⟩ : ∃ T, s.extract A s.size = T := ⟨_, rfl⟩
    have HT : Hid (T.data.toList = encs todo ++ q ∧ T.size ≤ 281474976710656) := by
      obtain ⟨h1, h2⟩ := HA.out
      have h3 := HS.out.1
      rw [h2] at h3
      have h4 := (drop_split h3).1
      rw [← h1, hT] at h4
      exact ⟨h4, by rw [← hT, ByteArray.size_extract]; omega⟩
    cases todo with
    | nil =>
      have HD := Lib.hid (rdecode_is T HT.out.2 0 0 ⟨#[]⟩ 0 c (by rw [HT.out.1, encs_nil, List.nil_append]; exact HS.out.2.2.1))
      have hc' : ((c : Int) != 0) = true := by have := HS.out.2.2.2; simp; omega
      go_wp2_with fail
      refine (HD.out _).mono ?_
      rintro e w1 ⟨rfl, b1⟩
      go_wp2
      refine bodyPost_ret (v := .tuple #[_, .int .i64 (A : Int), .int .i64 (c : Int)]) (by simp [results, Try.results10, go_sem]; rfl) rfl ?_
      obtain ⟨h1, h2⟩ := HA.out
      rw [List.append_nil] at h2
      subst h2
      exact ⟨_, by rw [h1], (own_below hown b1).alloc _, (hbel.trans (b1.mono hbel.size)).alloc (Nat.le_trans hbel.size b1.size) _⟩
    | cons f todo =>
      have hg : goodFr f := HS.out.2.1 f (by rw [HA.out.2]; simp)
      have hbd := encF_bd hg
      have HD := Lib.hid (rdecode_is T HT.out.2 f.1 f.2.1 f.2.2 (encF f).length 0 (by rw [HT.out.1, encs_cons, List.append_assoc]; exact decL_encF hg _))
      obtain ⟨n, hn⟩ : ∃ n, (encF f).length = n := ⟨_, rfl⟩
      have HN : Hid (A + n ≤ s.size ∧ A + n = (encs (done ++ [f])).length ∧ fs = (done ++ [f]) ++ todo ∧ done.length + 1 ≤ fs.length) := by
        obtain ⟨h1, h2⟩ := HA.out
        have h3 := HS.out.1
        have e1 : A + n = (encs (done ++ [f])).length := by rw [encs_append, List.length_append, ← h1, encs_cons, List.length_append, hn]; simp [encs_nil]
        have e2 : fs = (done ++ [f]) ++ todo := by rw [h2]; simp
        rw [e2] at h3
        exact ⟨by rw [e1]; exact (drop_split h3).2, e1, e2, by rw [h2]; simp⟩
      rw [hn] at HD hbd
      have hAn := HN.out.1
      have hw : IntKind.i64.wrap ((A : Int) + (n : Int)) = (A : Int) + (n : Int) := IntWalk.i64_in _ (by omega)
      clear hn hg
      go_wp2_with fail
      refine (HD.out _).mono ?_
      rintro e w1 ⟨rfl, b1⟩
      have hown1 := own_below hown b1
      have hb1 := hbel.trans (b1.mono hbel.size)
      clear hown hbel b1
      obtain ⟨v0, k0, p0⟩ := f
      go_wp2_with (at_builtin; refine wpList_append_own _ rfl _ _ 26 rfl w.heap.size 33 i0 _ 3 32 Try.underlying26 Hi.out Hz0.out Hz1.out Hz2.out rfl (by decide) _ _ _ rfl ((hown1.alloc _).alloc _) ⟨w1.heap.size + 1, 0, none⟩ 1 1 (frCell (v0, k0, p0)) rfl rfl ?c1 ?c2 ?c3 ?c4 ?c5 ?_)
      case c1 => exact fun j u hj => fr_new2 w1 _ v0 k0 p0 _ j u hj
      case c2 => exact frCell_one _
      case c3 => have := HN.out.2.2.2; have := HF.out; unfold maxLen; omega
      case c4 => have := HN.out.2.2.2; have := HF.out; omega
      case c5 => have := hb1.size; simp; omega
      · intro v' w2 hown2 hgrow _
        have hs1 := hb1.size
        have hb2 := grown_bel ((hb1.alloc hs1 _).alloc (by simp; omega) _) (by simp; omega) ((hown1.alloc _).alloc _) hgrow
        rw [← frCells_one, ← frCells_append] at hown2
        clear hown1 hgrow hb1
        go_wp2
        go_roundw
        case rel => exact ⟨done ++ [(v0, k0, p0)], todo, A + n, by simp, ⟨HN.out.2.1, HN.out.2.2.1⟩, hAn, by simpa using hown2, hb2⟩
        case measure => simp [intOf]; omega
end Go.Proofs.Ytiaggbdkkbkclaa
