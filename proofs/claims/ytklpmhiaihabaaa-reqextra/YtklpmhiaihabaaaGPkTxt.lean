import Derived.Test.YtklpmhiaihabaaaRows
import Derived.Lib.ValidLaws
import Derived.Test.YtklpmhiaihabaaaGGValid
import Derived.HandedShaped
import Derived.Test.YtklpmhiaihabaaaShelf
import Derived.WalkKit
import Derived.WalkSpells
import Derived.ProofKit
import Derived.Below
import Derived.Lib.Hide
import Derived.Test.YtklpmhiaihabaaaGPkNum
import Derived.Test.YtklpmhiaihabaaaGPkRef
/- What stands in the place of 'is valid UTF-8' where the library's tables may hold anything: a test of strings that the empty one passes. -/
namespace Go.Proofs.Ytklpmhiaihabaaa
open Go.RowKit Go.Lib

structure UV where
  u : ByteArray → Bool
  nil : u ⟨#[]⟩ = true
def V8 [Inhabited UV] (s : ByteArray) : Bool := (default : UV).u s
theorem V8_nil [Inhabited UV] : V8 ⟨#[]⟩ = true := (default : UV).nil
end Go.Proofs.Ytklpmhiaihabaaa

/- The library's two tables for UTF-8, whatever they hold, and the test of strings that they make; every memory that a row lets in has them. -/
namespace Go.Proofs.Ytklpmhiaihabaaa
open Go.RowKit Go.Lib

/-- The two tables make the test. -/
def Tabs [Inhabited UV] (w : World) : Prop := ∃ T : Tb, TabAt T w ∧ ∀ s : ByteArray, s.size ≤ 16 → V8 s = vT T 17 s
theorem Tabs.below [Inhabited UV] {w w' : World} (h : Tabs w) (hb : Below w.heap.size w w') : Tabs w' := by
  obtain ⟨T, h1, h2⟩ := h
  exact ⟨T, h1.below hb, h2⟩
theorem tabs_next [Inhabited UV] : ∀ w w', Tabs w → Below w.heap.size w w' → Tabs w' := fun _ _ h hb => h.below hb
theorem valid_is [Inhabited UV] (s : ByteArray) (hs : s.size ≤ 16) (w : World) (hT : Tabs w) :
    Calls Try.prog 113 #[.string s] w fun e w' => e = .returned (.bool (V8 s)) ∧ Below w.heap.size w w' := by
  obtain ⟨T, h1, h2⟩ := hT
  rw [h2 s hs]
  exact validT_is T s hs w h1
set_option maxRecDepth 1000000 in
theorem cell_u8 {w : World} {r : Reach} {base : Nat} {v : Value} (h : Cell.ok Try.prog w r base 5 v) : ∃ n : Nat, v = .int .u8 (n : Int) ∧ n < 256 := by
  unfold Cell.ok at h
  rw [Try.underlying5] at h
  cases v <;> simp only at h
  rename_i k n
  obtain ⟨rfl, h1⟩ := h
  have h2 : 0 ≤ n ∧ n ≤ 255 := by
    have := h1
    simp [IntKind.has, IntKind.min, IntKind.max, IntKind.signed, IntKind.bits] at this
    omega
  exact ⟨n.toNat, by congr 1; omega, by omega⟩
set_option maxRecDepth 1000000 in
theorem row_first : ((begin Try.prog (fun _ _ => 0) default).world.heap[0]?).bind Obj.row? = some ((Array.replicate 256 (Value.int .u8 0)), 158) := by kernel_rfl
set_option maxRecDepth 1000000 in
theorem row_accept : ((begin Try.prog (fun _ _ => 0) default).world.heap[1]?).bind Obj.row? = some ((Array.replicate 32 (Value.int .u8 0)), 161) := by kernel_rfl
set_option maxRecDepth 1000000 in
theorem types_first : Try.prog.cellTypes Try.prog.depth 158 = some (List.replicate 256 5) := by kernel_rfl
set_option maxRecDepth 1000000 in
theorem types_accept : Try.prog.cellTypes Try.prog.depth 161 = some (List.replicate 32 5) := by kernel_rfl
set_option maxRecDepth 1000000 in
theorem row_u8 {w : World} {t N : Nat} {cs : Array Value} (ht : Try.prog.cellTypes Try.prog.depth t = some (List.replicate N 5)) (h : Row.ok Try.prog w .any 0 t cs) (hs : cs.size = N) :
    ∃ f : Nat → Nat, ∀ i, i < N → cs[i]? = some (.int .u8 (f i : Int)) ∧ f i < 256 := by
  obtain ⟨ts, h1, _, h2⟩ := h
  have e : ts = List.replicate N 5 := Option.some.inj (h1.symm.trans ht)
  subst e
  have each : ∀ i, ∃ n : Nat, i < N → cs[i]? = some (.int .u8 (n : Int)) ∧ n < 256 := by
    intro i
    by_cases hi : i < N
    · obtain ⟨u, hu, hc⟩ := h2 i cs[i] (by rw [Array.getElem?_eq_getElem (by omega)])
      rw [List.length_replicate, List.getElem?_replicate] at hu
      have hu' : u = 5 := by
        split at hu
        · exact (Option.some.inj hu).symm
        · cases hu
      subst hu'
      obtain ⟨n, hn, hl⟩ := cell_u8 hc
      exact ⟨n, fun _ => ⟨by rw [Array.getElem?_eq_getElem (by omega), hn], hl⟩⟩
    · exact ⟨0, fun h => absurd h hi⟩
  exact Classical.axiomOfChoice each
set_option maxRecDepth 1000000 in
theorem tabs_any [Inhabited UV] {w : World} (h : w.ShapedOpen Try.prog) : ∃ uv : UV, @Tabs ⟨uv⟩ w := by
  obtain ⟨h1, _⟩ := h
  obtain ⟨cs, hc, hs, hr⟩ := h1 0 _ _ (of_decide_eq_true (by kernel_rfl)) row_first
  obtain ⟨ds, hd, ht, hq⟩ := h1 1 _ _ (of_decide_eq_true (by kernel_rfl)) row_accept
  rw [Array.size_replicate] at hs ht
  obtain ⟨f, hf⟩ := row_u8 types_first (hr (by kernel_rfl)) hs
  obtain ⟨g, hg⟩ := row_u8 types_accept (hq (by kernel_rfl)) ht
  have cell : ∀ (b : Nat) (cs : Array Value) (t : TypeId) (i : Nat) (v : Value), w.heap[b]? = some (.cells cs t) → cs[i]? = some v → w.cell? ⟨b, i, none⟩ = some v := by
    intro b cs t i v hb hv
    unfold World.cell?
    rw [show w.heap[(⟨b, i, none⟩ : Addr).block]? = some (.cells cs t) from hb]
    exact hv
  have T0 : TabAt ⟨f, fun i => g (i * 2), fun i => g (i * 2 + 1)⟩ w :=
    ⟨fun i hi => ⟨cell _ _ _ _ _ hc (hf i hi).1, (hf i hi).2⟩, fun i hi => ⟨cell _ _ _ _ _ hd (hg (i * 2) (by omega)).1, cell _ _ _ _ _ hd (hg (i * 2 + 1) (by omega)).1, (hg (i * 2) (by omega)).2, (hg (i * 2 + 1) (by omega)).2⟩,
      (Array.getElem?_eq_some_iff.1 hc).1, (Array.getElem?_eq_some_iff.1 hd).1⟩
  exact ⟨⟨vT ⟨f, fun i => g (i * 2), fun i => g (i * 2 + 1)⟩ 17, vT_nil _ _ _ rfl⟩, _, T0, fun s _ => rfl⟩
end Go.Proofs.Ytklpmhiaihabaaa

namespace Go.Proofs.Ytklpmhiaihabaaa
open Go.RowKit Go.Lib

theorem clone_inner (s : ByteArray) (hs : s.size ≤ 140737488355328) (w : World) :
    Calls Try.prog 116 #[.string s] w fun e w' => e = .returned (.string s) ∧ Below w.heap.size w w' :=
  Any.stringslite_Clone Try.laysClone s w (by omega)
theorem clone_is (s : ByteArray) (hs : s.size ≤ 140737488355328) (w : World) :
    Calls Try.prog 114 #[.string s] w fun e w' => e = .returned (.string s) ∧ Below w.heap.size w w' := by
  have HC := Lib.hid (clone_inner s hs)
  clear hs
  go_enter Try.func114, Try.ntmps114
  go_wp2_with fail
  refine (HC.out _).mono ?_
  rintro e w1 ⟨rfl, hb⟩
  go_wp2
  go_ret
  exact ⟨rfl, hb⟩
end Go.Proofs.Ytklpmhiaihabaaa

/- What Text and ReadText answer (no program); what is valid UTF-8. -/
namespace Go.Proofs.Ytklpmhiaihabaaa
open Go.RowKit Go.Lib

/-- What Text answers. -/
def txt [Inhabited UV] (s : ByteArray) : ByteArray × Nat :=
  if 16 < s.size then (⟨#[]⟩, 2) else if V8 s = true then (numS s.size ++ s, 0) else (⟨#[]⟩, 4)
/-- What ReadText answers. -/
def rdT [Inhabited UV] (s : ByteArray) : ByteArray × Nat × Nat :=
  if (rd s.data.toList).2.2 ≠ 0 then (⟨#[]⟩, 0, (rd s.data.toList).2.2)
  else if 16 < (rd s.data.toList).1 then (⟨#[]⟩, 0, 2)
  else if s.size < (rd s.data.toList).2.1 + (rd s.data.toList).1 then (⟨#[]⟩, 0, 3)
  else if V8 (s.extract (rd s.data.toList).2.1 ((rd s.data.toList).2.1 + (rd s.data.toList).1)) = true then (s.extract (rd s.data.toList).2.1 ((rd s.data.toList).2.1 + (rd s.data.toList).1), (rd s.data.toList).2.1 + (rd s.data.toList).1, 0)
  else (⟨#[]⟩, 0, 4)
end Go.Proofs.Ytklpmhiaihabaaa

namespace Go.Proofs.Ytklpmhiaihabaaa
open Go.RowKit Go.Lib

theorem ret_t2 {p : ByteArray × Nat} {a : ByteArray} {b : Int} (n : Nat) (h : p = (a, n)) (hb : b = n) : Ending.returned (.tuple #[.string a, .int .i64 b]) = .returned (.tuple #[.string p.1, .int .i64 p.2]) := by
  subst h hb; rfl
theorem ret_t3 {p : ByteArray × Nat × Nat} {a : ByteArray} {b c : Int} (n m : Nat) (h : p = (a, n, m)) (hb : b = n) (hc : c = m) : Ending.returned (.tuple #[.string a, .int .i64 b, .int .i64 c]) = .returned (.tuple #[.string p.1, .int .i64 p.2.1, .int .i64 p.2.2]) := by
  subst h hb hc; rfl

set_option maxRecDepth 100000 in
set_option maxHeartbeats 400000 in
theorem text_any [Inhabited UV] (s : ByteArray) (hs : s.size ≤ 140737488355328) (w : World) (hT : Tabs w) :
    Calls Try.prog 109 #[.string s] w fun e w' => e = .returned (.tuple #[.string (txt s).1, .int .i64 (txt s).2]) ∧ Below w.heap.size w w' := by
  obtain ⟨p, hp⟩ : ∃ p, txt s = p := ⟨_, rfl⟩
  rw [hp]
  by_cases h16 : 16 < s.size
  · have HP : Hid (p = (⟨#[]⟩, 2)) := by show _ = _; rw [← hp, txt, if_pos h16]
    clear hp hT
    go_enter Try.func109, Try.ntmps109
    go_wp2
    go_ret2
    exact ⟨ret_t2 2 HP.out rfl, Below.refl _ _⟩
  · have HV := Lib.hid (valid_is s (by omega) w hT)
    by_cases hv : V8 s = true
    · have HP : Hid (p = (numS s.size ++ s, 0)) := by show _ = _; rw [← hp, txt, if_neg h16, if_pos hv]
      rw [hv] at HV
      have HN := Lib.hid (number_is s.size (by omega))
      have hl : (numS s.size).size ≤ 10 := by rw [numS_size]; exact num_len10 (by omega)
      clear hp hT hv
      generalize numS s.size = t at *
      go_enter Try.func109, Try.ntmps109
      go_wp2_with fail
      refine HV.out.mono ?_
      rintro e w1 ⟨rfl, b1⟩
      go_wp2_with fail
      refine (HN.out _).mono ?_
      rintro e w2 ⟨rfl, b2⟩
      go_wp2
      go_ret2
      exact ⟨ret_t2 0 HP.out rfl, b1.trans (b2.mono b1.size)⟩
    · have hv : V8 s = false := by simpa using hv
      have HP : Hid (p = (⟨#[]⟩, 4)) := by show _ = _; rw [← hp, txt, if_neg h16, if_neg (by rw [hv]; simp)]
      rw [hv] at HV
      clear hp hT hv
      go_enter Try.func109, Try.ntmps109
      go_wp2_with fail
      refine HV.out.mono ?_
      rintro e w1 ⟨rfl, b1⟩
      go_wp2
      go_ret2
      exact ⟨ret_t2 4 HP.out rfl, b1⟩

set_option maxRecDepth 100000 in
set_option maxHeartbeats 1000000 in
theorem readText_big [Inhabited UV] (s : ByteArray) (hs : s.size ≤ 1152921504606846976) (w : World) (hT : Tabs w) :
    Calls Try.prog 110 #[.string s] w fun e w' => e = .returned (.tuple #[.string (rdT s).1, .int .i64 (rdT s).2.1, .int .i64 (rdT s).2.2]) ∧ Below w.heap.size w w' := by
  obtain ⟨p, hp⟩ : ∃ p, rdT s = p := ⟨_, rfl⟩
  rw [hp]
  unfold rdT at hp
  obtain ⟨N, k, c, hr⟩ : ∃ N k c, rd s.data.toList = (N, k, c) := ⟨_, _, _, rfl⟩
  rw [hr] at hp
  simp only at hp
  have HR := Lib.hid (read_is s N k c hr (by unfold maxLen; omega))
  by_cases hc : c = 0
  · subst hc
    rw [if_neg (by simp)] at hp
    have ho := rd_ok (l := s.data.toList) (by rw [hr])
    rw [hr] at ho
    have hk10 : k ≤ 10 := by have h1 := ho.2.1; have h2 := num_len10 ho.1; simp only at h1 h2; omega
    clear ho hr
    by_cases h16 : 16 < N
    · have HP : Hid (p = (⟨#[]⟩, 0, 2)) := by show _ = _; rw [← hp, if_pos h16]
      clear hp hT
      go_enter Try.func110, Try.ntmps110
      go_wp2_with fail
      refine (HR.out _).mono ?_
      rintro e w1 ⟨rfl, rfl⟩
      go_wp2
      go_ret3
      exact ⟨ret_t3 0 2 HP.out rfl rfl, Below.refl _ _⟩
    · rw [if_neg h16] at hp
      by_cases hl : s.size < k + N
      · have HP : Hid (p = (⟨#[]⟩, 0, 3)) := by show _ = _; rw [← hp, if_pos hl]
        clear hp hT
        go_enter Try.func110, Try.ntmps110
        go_wp2_with fail
        refine (HR.out _).mono ?_
        rintro e w1 ⟨rfl, rfl⟩
        go_wp2
        go_ret3
        exact ⟨ret_t3 0 3 HP.out rfl rfl, Below.refl _ _⟩
      · rw [if_neg hl] at hp
        have hts : (s.extract k (k + N)).size ≤ 140737488355328 := by rw [ByteArray.size_extract]; omega
        have HV := Lib.hid (valid_is (s.extract k (k + N)) (by rw [ByteArray.size_extract]; omega) w hT)
        have HC := Lib.hid (clone_is (s.extract k (k + N)) hts)
        by_cases hv : V8 (s.extract k (k + N)) = true
        · rw [if_pos hv] at hp
          rw [hv] at HV
          have HP := Lib.hid hp.symm
          clear hp hT hv hts
          go_enter Try.func110, Try.ntmps110
          go_wp2_with fail
          refine (HR.out _).mono ?_
          rintro e w1 ⟨rfl, rfl⟩
          go_wp2_with fail
          refine HV.out.mono ?_
          rintro e w1 ⟨rfl, b1⟩
          go_wp2_with fail
          refine (HC.out _).mono ?_
          rintro e w2 ⟨rfl, b2⟩
          go_wp2
          go_ret3
          exact ⟨ret_t3 (k + N) 0 HP.out (by omega) rfl, b1.trans (b2.mono b1.size)⟩
        · rw [if_neg hv] at hp
          have hv : V8 (s.extract k (k + N)) = false := by simpa using hv
          rw [hv] at HV
          have HP := Lib.hid hp.symm
          clear hp hT hv hts
          go_enter Try.func110, Try.ntmps110
          go_wp2_with fail
          refine (HR.out _).mono ?_
          rintro e w1 ⟨rfl, rfl⟩
          go_wp2_with fail
          refine HV.out.mono ?_
          rintro e w1 ⟨rfl, b1⟩
          go_wp2
          go_ret3
          exact ⟨ret_t3 0 4 HP.out rfl rfl, b1⟩
  · have HP : Hid (p = (⟨#[]⟩, 0, c)) := by show _ = _; rw [← hp, if_pos hc]
    have hc' : ((c : Int) != 0) = true := by simp; omega
    clear hp hT hr
    go_enter Try.func110, Try.ntmps110
    go_wp2_with fail
    refine (HR.out _).mono ?_
    rintro e w1 ⟨rfl, rfl⟩
    go_wp2
    go_ret3
    exact ⟨ret_t3 0 c HP.out rfl rfl, Below.refl _ _⟩

theorem readText_any [Inhabited UV] (s : ByteArray) (hs : s.size ≤ 140737488355328) (w : World) (hT : Tabs w) :
    Calls Try.prog 110 #[.string s] w fun e w' => e = .returned (.tuple #[.string (rdT s).1, .int .i64 (rdT s).2.1, .int .i64 (rdT s).2.2]) ∧ Below w.heap.size w w' := readText_big s (by omega) w hT
end Go.Proofs.Ytklpmhiaihabaaa
