import Derived.Test.YtiaggbdkkbkclaaFdAll
namespace Go.Proofs.Ytiaggbdkkbkclaa
open Go.RowKit

/-- A feed in memory: what it holds, and that it may be written. -/
def FeedAt (w : World) (b : Nat) (r : ByteArray) (a c : Nat) : Prop :=
  (w.cell? ⟨b, 0, none⟩ = some (.string r) ∧ w.cell? ⟨b, 1, none⟩ = some (.int .i64 (a : Int)) ∧ w.cell? ⟨b, 2, none⟩ = some (.int .i64 (c : Int))) ∧
  (w.frozen? ⟨b, 0, none⟩ = false ∧ w.frozen? ⟨b, 1, none⟩ = false ∧ w.frozen? ⟨b, 2, none⟩ = false) ∧ b < w.heap.size
theorem feedAt_next {w w' : World} {b : Nat} {r : ByteArray} {a c : Nat} (h : FeedAt w b r a c) (hb : Below w.heap.size w w') : FeedAt w' b r a c := by
  obtain ⟨⟨h0, h1, h2⟩, ⟨f0, f1, f2⟩, hl⟩ := h
  have hs := hb.size
  exact ⟨⟨by rw [hb.cell (p := ⟨b, 0, none⟩) hl]; exact h0, by rw [hb.cell (p := ⟨b, 1, none⟩) hl]; exact h1, by rw [hb.cell (p := ⟨b, 2, none⟩) hl]; exact h2⟩,
    ⟨by rw [hb.frozen (p := ⟨b, 0, none⟩) hl]; exact f0, by rw [hb.frozen (p := ⟨b, 1, none⟩) hl]; exact f1, by rw [hb.frozen (p := ⟨b, 2, none⟩) hl]; exact f2⟩, Nat.lt_of_lt_of_le hl hs⟩
theorem feedAt_row {w w' : World} {b : Nat} {row : Option Nat} {r : ByteArray} {a c : Nat} (h : FeedAt w b r a c) (hb : w.grownBy w' row) (hne : some b ≠ row) : FeedAt w' b r a c := by
  obtain ⟨⟨h0, h1, h2⟩, ⟨f0, f1, f2⟩, hl⟩ := h
  have hs := hb.size
  have hk := hb.block b hl hne
  exact ⟨⟨by rw [World.cell?_of_block (w := w) (a := ⟨b, 0, none⟩) hk]; exact h0, by rw [World.cell?_of_block (w := w) (a := ⟨b, 1, none⟩) hk]; exact h1, by rw [World.cell?_of_block (w := w) (a := ⟨b, 2, none⟩) hk]; exact h2⟩,
    ⟨by rw [World.frozen?_of_block (w := w) (a := ⟨b, 0, none⟩) hk]; exact f0, by rw [World.frozen?_of_block (w := w) (a := ⟨b, 1, none⟩) hk]; exact f1, by rw [World.frozen?_of_block (w := w) (a := ⟨b, 2, none⟩) hk]; exact f2⟩, Nat.lt_of_lt_of_le hl hs⟩
theorem grownBy_fresh {w0 w1 w2 : World} {r row : Option Nat} (h : w0.grownBy w1 r) (k : w1.grownBy w2 row) (hr : ∀ j, row = some j → w0.heap.size ≤ j) : w0.grownBy w2 r :=
  ⟨k.os.trans h.os, k.tape.trans h.tape, k.output.trans h.output, Nat.le_trans h.size k.size, fun i hi hn => (k.block i (Nat.lt_of_lt_of_le hi h.size) (fun e => by have := hr i e.symm; omega)).trans (h.block i hi hn)⟩
theorem own_apart {w : World} {B e sz n b : Nat} {v : Value} {xs : List Value} (h : w.ownsRow B e sz v n xs) (hb : b < B) : v.ownBlock = none ∨ v.ownBlock ≠ some b := by
  cases hk : v.ownBlock with
  | none => exact .inl rfl
  | some k =>
    right
    intro he
    have h1 := (h.lt k hk).1
    simp at he
    omega
theorem own_ne {w : World} {B e sz n b : Nat} {v : Value} {xs : List Value} (h : w.ownsRow B e sz v n xs) (hb : b < B) : some b ≠ v.ownBlock := by
  rcases own_apart h hb with h1 | h1
  · rw [h1]; simp
  · exact fun e => h1 e.symm
theorem grownBy_below' {B : Nat} {w0 w w' : World} {b : Nat} (h : Below B w0 w) (k : w.grownBy w' (some b)) (hB : B ≤ w.heap.size) (hb : B ≤ b) : Below B w0 w' := h.grown k hB (fun j hj => by simp at hj; omega)
theorem feedAt_new (w : World) (t : TypeId) : FeedAt (w.alloc (.cells #[.string ⟨#[]⟩, .int .i64 0, .int .i64 0] t)) w.heap.size ⟨#[]⟩ 0 0 :=
  ⟨⟨cell_one_new0 _ _ _ _ _, cell_one_new1 _ _ _ _ _, cell_one_new2 _ _ _ _ _⟩, ⟨by go_simp, by go_simp, by go_simp⟩, by simp⟩
theorem feedAt_set0 {w : World} {b : Nat} {r : ByteArray} {a c : Nat} (h : FeedAt w b r a c) (r' : ByteArray) : FeedAt (w.setCell ⟨b, 0, none⟩ (.string r')) b r' a c := by
  obtain ⟨⟨h0, h1, h2⟩, ⟨f0, f1, f2⟩, hl⟩ := h
  exact ⟨⟨by go_simp, by go_simp, by go_simp⟩, ⟨by go_simp, by go_simp, by go_simp⟩, by go_simp⟩
theorem feedAt_set1 {w : World} {b : Nat} {r : ByteArray} {a c : Nat} (h : FeedAt w b r a c) (a' : Nat) : FeedAt (w.setCell ⟨b, 1, none⟩ (.int .i64 (a' : Int))) b r a' c := by
  obtain ⟨⟨h0, h1, h2⟩, ⟨f0, f1, f2⟩, hl⟩ := h
  exact ⟨⟨by go_simp, by go_simp, by go_simp⟩, ⟨by go_simp, by go_simp, by go_simp⟩, by go_simp⟩
theorem feedAt_set2 {w : World} {b : Nat} {r : ByteArray} {a c : Nat} (h : FeedAt w b r a c) (c' : Nat) : FeedAt (w.setCell ⟨b, 2, none⟩ (.int .i64 (c' : Int))) b r a c' := by
  obtain ⟨⟨h0, h1, h2⟩, ⟨f0, f1, f2⟩, hl⟩ := h
  exact ⟨⟨by go_simp, by go_simp, by go_simp⟩, ⟨by go_simp, by go_simp, by go_simp⟩, by go_simp⟩
theorem grownBy_refl (w : World) (row : Option Nat) : w.grownBy w row := ⟨rfl, rfl, rfl, Nat.le_refl _, fun _ _ _ => rfl⟩
theorem grownBy_trans {w w' w2 : World} {row : Option Nat} (h : w.grownBy w' row) (k : w'.grownBy w2 row) : w.grownBy w2 row :=
  ⟨k.os.trans h.os, k.tape.trans h.tape, k.output.trans h.output, Nat.le_trans h.size k.size, fun i hi hr => (k.block i (Nat.lt_of_lt_of_le hi h.size) hr).trans (h.block i hi hr)⟩
theorem grownBy_below {w w' : World} (k : Below w.heap.size w w') (row : Option Nat) : w.grownBy w' row :=
  ⟨k.os, k.tape, k.output, k.size, fun i hi _ => k.block i hi⟩
theorem grownBy_set (w : World) (b j : Nat) (u : Value) : w.grownBy (w.setCell ⟨b, j, none⟩ u) (some b) :=
  ⟨rfl, rfl, rfl, by simp [World.setCell], fun k _ hr => Below.heap_setCell _ _ _ _ (by simp at hr; exact hr)⟩
theorem grownBy_drew (w : World) (row : Option Nat) : w.grownBy w.drew row := ⟨rfl, rfl, rfl, Nat.le_refl _, fun _ _ _ => rfl⟩
theorem own_slice {w : World} {base e sz n : Nat} {v : Value} {xs : List Value} (h : w.ownsRow base e sz v n xs) : ∃ ad cap, v = .slice ad n cap := by
  rcases h.2 with ⟨rfl, rfl⟩ | ⟨g, cap, cur, rfl, _⟩
  · exact ⟨_, _, rfl⟩
  · exact ⟨_, _, rfl⟩

theorem new_is (w : World) : Calls Try.prog 8 #[] w fun e w' => e = .returned (.pointer (some ⟨w.heap.size, 0, none⟩)) ∧ FeedAt w' w.heap.size ⟨#[]⟩ 0 0 ∧ Below w.heap.size w w' ∧ w.heap.size < w'.heap.size := by
  go_enter Try.func8, Try.ntmps8
  go_wp2
  go_ret
  exact ⟨rfl, feedAt_new _ _, (Below.refl _ _).alloc (Nat.le_refl _) _, by simp⟩
theorem at_is {w : World} {b : Nat} {r : ByteArray} {a c : Nat} (h : FeedAt w b r a c) :
    Calls Try.prog 13 #[.pointer (some ⟨b, 0, none⟩)] w fun e w' => e = .returned (.int .i64 (a : Int)) ∧ w = w' := by
  obtain ⟨⟨h0, h1, h2⟩, ⟨f0, f1, f2⟩, hl⟩ := h
  go_enter Try.func13, Try.ntmps13
  go_wp2
  go_ret
  exact ⟨rfl, rfl⟩
theorem left_is {w : World} {b : Nat} {r : ByteArray} {a c : Nat} (h : FeedAt w b r a c) :
    Calls Try.prog 12 #[.pointer (some ⟨b, 0, none⟩)] w fun e w' => e = .returned (.int .i64 (r.size : Int)) ∧ w = w' := by
  obtain ⟨⟨h0, h1, h2⟩, ⟨f0, f1, f2⟩, hl⟩ := h
  go_enter Try.func12, Try.ntmps12
  go_wp2
  go_ret
  exact ⟨rfl, rfl⟩
theorem app_nil_data (r s : ByteArray) : (r ++ s).data.toList = r.data.toList ++ s.data.toList := app_data r s
set_option maxRecDepth 100000 in
set_option maxHeartbeats 1000000 in
theorem push_is {w : World} {b : Nat} {r : ByteArray} {a c : Nat} (hf : FeedAt w b r a c) (s : ByteArray) (fs : List Fr) (r' : ByteArray) (a' c' : Nat) (hp : Pushed r.data.toList a c s.data.toList fs r'.data.toList a' c')
    (hsz : r.size + s.size ≤ 1152921504606846976) (hn : fs.length * 32 ≤ 140737488355328) (ha : a' ≤ 4611686018427387904) :
    Calls Try.prog 9 #[.pointer (some ⟨b, 0, none⟩), .string s] w fun e w' => ∃ v, e = .returned (.tuple #[v, .int .i64 (c' : Int)]) ∧ w'.ownsRow w.heap.size 33 3 v fs.length (frCells fs) ∧ FeedAt w' b r' a' c' ∧ w.grownBy w' (some b) := by
  rcases hp with ⟨hc, rfl, hr, rfl, rfl⟩ | ⟨rfl, q, e, hS, rfl, hE⟩
  · obtain rfl := bytes_of hr
    have hf2 := hf
    obtain ⟨⟨h0, h1, h2⟩, ⟨f0, f1, f2⟩, hl⟩ := hf
    have hc' : ((c' : Int) != 0) = true := by simp; omega
    clear hc hr
    go_enter Try.func9, Try.ntmps9
    go_wp2_with fail
    go_region
    go_wp2
    exact bodyPost_ret (v := .tuple #[.slice none 0 0, .int .i64 (c' : Int)]) (by simp [results, Try.results9, go_sem]) rfl ⟨_, rfl, World.ownsRow_nil _ _ _ _, hf2, grownBy_drew _ _⟩
  · obtain ⟨T, hT⟩ : ∃ T, r ++ s = T := ⟨_, rfl⟩
    have hTs : T.size = r.size + s.size := by rw [← hT, ByteArray.size_append]
    rw [← app_data, hT] at hS
    have HD := Lib.hid (decodeAll_is T (by omega) fs q e hS hn)
    have hadd : ¬ (9223372036854775807 < r.size + s.size) := by omega
    obtain ⟨n, hN⟩ : ∃ n, (encs fs).length = n := ⟨_, rfl⟩
    rw [hN] at HD ha ⊢
    have hw : IntKind.i64.wrap ((a : Int) + (n : Int)) = (a : Int) + (n : Int) := IntWalk.i64_in _ (by omega)
    have hf2 := Lib.hid hf
    obtain ⟨⟨h0, h1, h2⟩, ⟨f0, f1, f2⟩, hl⟩ := hf
    clear hTs
    go_enter Try.func9, Try.ntmps9
    go_wp2_with fail
    refine (HD.out _).mono ?_
    rintro e1 w1 ⟨v, rfl, hown, b1⟩
    have hf3 := feedAt_next hf2.out b1
    clear h0 h1 h2 f0 f1 f2 hl
    have hf4 := feedAt_set1 hf3 (a + n)
    have hf5 := hf4
    obtain ⟨⟨h0, h1, h2⟩, ⟨f0, f1, f2⟩, hl⟩ := hf3
    rcases hE with ⟨he, hr, rfl⟩ | ⟨rfl, hr, rfl⟩
    · have he' : ((c' : Int) != 3) = true := by simp; omega
      clear he
      obtain rfl : r' = ⟨#[]⟩ := bytes_of hr
      go_wp2
      have g : (w.grownBy _ (some b)) := grownBy_trans (grownBy_trans (grownBy_trans (grownBy_below b1 _) (grownBy_set _ b 1 (.int .i64 ((a + n : Nat) : Int)))) (grownBy_set _ b 0 (.string ⟨#[]⟩))) (grownBy_set _ b 2 (.int .i64 (c' : Int)))
      exact bodyPost_ret (v := .tuple #[v, .int .i64 (c' : Int)]) (by simp [results, Try.results9, go_sem]) rfl
        ⟨_, rfl, ownsRow_setCell_below (ownsRow_setCell_below (ownsRow_setCell_below hown (by exact hf2.out.2.2) _) (by exact hf2.out.2.2) _) (by exact hf2.out.2.2) _, feedAt_set2 (feedAt_set0 hf5 ⟨#[]⟩) c', g⟩
    · have hTl : (n : Int) ≤ (T.size : Int) := by
        have := hS.1
        rw [← size_data, this, List.length_append, hN]; omega
      obtain ⟨U, hU⟩ : ∃ U, T.extract n T.size = U := ⟨_, rfl⟩
      have hUq : U = r' := by
        apply bytes_of
        rw [← hU, drop_data, hS.1, hr, ← hN]; simp
      have hq : U.size ≤ 6017 := by
        rw [hUq, ← size_data, hr]; exact decL_three hS.2.2.1
      subst hUq
      have HC := Lib.hid (clone_is U (by omega))
      have HO := Lib.hid (ownsRow_setCell_below hown (a := ⟨b, 1, none⟩) (by exact hf2.out.2.2) (.int .i64 ((a + n : Nat) : Int)))
      clear hr hS hown hf5
      go_wp2_with fail
      refine (HC.out _).mono ?_
      rintro e2 w2 ⟨rfl, b2⟩
      have b2' : Below (w1.setCell ⟨b, 1, none⟩ (.int .i64 ((a + n : Nat) : Int))).heap.size (w1.setCell ⟨b, 1, none⟩ (.int .i64 ((a + n : Nat) : Int))) w2 := by simpa using b2
      have hf6 := feedAt_next hf4 b2'
      have hf7 := Lib.hid hf6
      have hown2 := Lib.hid (own_below HO.out b2')
      have g2 := Lib.hid (grownBy_trans (grownBy_trans (grownBy_below b1 (some b)) (grownBy_set _ b 1 (.int .i64 ((a + n : Nat) : Int)))) (grownBy_below b2' _))
      clear h0 h1 h2 f0 f1 f2 hl hf4 b1 b2 b2' HO
      obtain ⟨⟨h0, h1, h2⟩, ⟨f0, f1, f2⟩, hl⟩ := hf6
      go_wp2
      exact bodyPost_ret (v := .tuple #[v, .int .i64 (0 : Int)]) (by simp [results, Try.results9, go_sem]) rfl
        ⟨_, rfl, ownsRow_setCell_below hown2.out (by exact hf2.out.2.2) _, feedAt_set0 hf7.out U, grownBy_trans g2.out (grownBy_set _ b 0 _)⟩
end Go.Proofs.Ytiaggbdkkbkclaa
