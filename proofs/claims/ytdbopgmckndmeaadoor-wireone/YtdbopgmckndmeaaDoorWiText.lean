/- The coder of package wire: strings; how far a step leads. -/
import Derived.Test.YtdbopgmckndmeaaDoorWiSteps
import Derived.Test.YtdbopgmckndmeaaDoorText
import Derived.Test.YtdbopgmckndmeaaDoorStChk
namespace Go.Proofs.YtdbopgmckndmeaaDoor
open Go.RowKit Go.Lib

theorem rdT_size (s : ByteArray) : (rdT s).2.1 ≤ s.size := by
  unfold rdT
  split
  · simp
  · split
    · simp
    · split
      · simp
      · split
        · simp only; omega
        · simp
theorem txt_note {s : ByteArray} (h : isNote V8 s = true) : txt s = (numS s.size ++ s, 0) := by
  simp only [isNote, Bool.and_eq_true, decide_eq_true_eq] at h
  have hv : validD s.data.toList = true := h.2
  unfold txt
  rw [if_neg (by omega), if_pos hv]
theorem note_size {s : ByteArray} (h : isNote V8 s = true) : s.size ≤ 16 := by
  simp only [isNote, Bool.and_eq_true, decide_eq_true_eq] at h
  exact h.1
set_option maxRecDepth 100000 in
set_option maxHeartbeats 1000000 in
theorem codeText_is {b : Nat} {v : Int} {m : M} (s : ByteArray) (hn : m.reading = false → isNote V8 s = true) (hs : m.rest.size ≤ 1152921504606846976) (hg : m.gs.length ≤ 1073741824) (w : World) (h : CodeAt b v m w) (hT : Tabs w) :
    Calls Tryd.prog 95 #[.pointer (some ⟨b, 0, none⟩), .string s] w fun r w' => r = .returned (.string (txtS s m).1) ∧ CodeAt b v (txtS s m).2 w' ∧ Keep b w w' := by
  by_cases hr : m.reading = true
  · obtain ⟨c0, c1, c3, c4⟩ := code_cells h
    rw [hr] at c1
    have hl := code_lt h
    have HR := Lib.hid (readText_big m.rest hs w hT)
    have hks := rdT_size m.rest
    have hL : txtS s m = ((rdT m.rest).1, m.adv (rdT m.rest).2.1 (rdT m.rest).2.2) := by unfold txtS; rw [if_pos hr]
    rw [hL]
    have HA := Lib.hid (fun w' (hb : Below w.heap.size w w') => advance_is (rdT m.rest).2.1 (rdT m.rest).2.2 hks w' (code_next h hb))
    obtain ⟨q, hq⟩ : ∃ q, rdT m.rest = q := ⟨_, rfl⟩
    rw [hq] at HR HA ⊢
    clear h hL hks hT hq hn
    go_enter Tryd.func95, Tryd.ntmps95
    go_wp2_with fail
    refine HR.out.mono ?_
    rintro r w1 ⟨rfl, b1⟩
    have HA1 := Lib.hid (HA.out w1 b1)
    go_wp2_with fail
    refine HA1.out.mono ?_
    rintro r w2 ⟨rfl, h1, k1⟩
    go_wp2
    go_ret
    exact ⟨rfl, h1, keep_trans (keep_below b1) k1⟩
  · have hr : m.reading = false := by simpa using hr
    have hN := hn hr
    have hL : txtS s m = (s, { m with gs := m.gs ++ textE s }) := by unfold txtS; rw [if_neg (by rw [hr]; simp)]
    rw [hL]
    have h16 := note_size hN
    have HT := text_any s (by omega) w hT
    rw [txt_note hN] at HT
    have HT := Lib.hid HT
    obtain ⟨T, hTT⟩ : ∃ T, numS s.size ++ s = T := ⟨_, rfl⟩
    have HD : Hid (T.data.toList = textE s) := by show _ = _; rw [← hTT, app_data, numS_data]; rfl
    have hsz : T.size ≤ 26 := by
      rw [← size_l, HD.out]
      have := text_len hN
      omega
    simp only [hTT] at HT
    have h0 := Lib.hid h
    obtain ⟨c0, c1, c3, c4⟩ := code_cells h
    rw [hr] at c1
    have hl := code_lt h
    obtain ⟨i0, hi, hz0, hz1, hz2⟩ := info_parts Tryd.infoByte
    have Hi := Lib.hid hi
    have Hz0 := Lib.hid hz0
    have Hz1 := Lib.hid hz1
    have Hz2 := Lib.hid hz2
    clear hi hz0 hz1 hz2 h hT hTT hL hn hN c0 c3 c4
    go_enter Tryd.func95, Tryd.ntmps95
    go_wp2_with fail
    refine HT.out.mono ?_
    rintro r w1 ⟨rfl, b1⟩
    have hc1 := Lib.hid (fail_is 0 w1 (code_next h0.out b1))
    go_wp2_with fail
    refine hc1.out.mono ?_
    rintro r w2 ⟨rfl, h2, k2⟩
    obtain ⟨x, hO, hR⟩ := h2
    obtain ⟨ad, cap, rfl⟩ := ownRow_slice hR
    have c2 := objAt_cell hO 2 rfl
    have f2 := objAt_free hO 2
    have hl2 := objAt_lt hO
    have HO := Lib.hid hO
    have HR := Lib.hid hR
    have gl : (m.fail 0).gs.length = m.gs.length := rfl
    have K2 := Lib.hid (keep_trans (keep_below b1) k2 : Keep b w w2)
    rw [gl] at c2 HO HR
    clear hO hR k2 b1 c1 hl hc1 HT
    go_wp2_with (at_builtin; refine wpList_append_own_string _ rfl _ _ 47 9 rfl (b + 1) 5 i0 Tryd.underlying47 Tryd.underlying9 Hi.out Hz0.out Hz1.out Hz2.out _ _ _ rfl HR.out T rfl (by unfold maxLen; omega) (by omega) (by omega) ?_)
    intro v3 w3 own3 hg3 _
    obtain ⟨ad3, cp3, rfl⟩ := ownRow_slice own3
    have O3 := code_app HO.out HR.out hg3
    have c23 := objAt_cell O3 2 rfl
    have f23 := objAt_free O3 2
    have hl3 := objAt_lt O3
    have HO3 := Lib.hid O3
    have HK := Lib.hid (keep_trans K2.out (keep_own HR.out hg3))
    have Hown := Lib.hid own3
    clear O3 own3 hg3 c2 f2 hl2
    go_wp2
    go_ret
    have hmf : ({ m with gs := m.gs ++ textE s } : M) = { m.fail 0 with gs := m.gs ++ textE s } := by
      unfold M.fail
      by_cases he : m.e = 0
      · rw [if_pos he, ← he]
      · rw [if_neg he]
    rw [hmf]
    exact ⟨rfl, code_put (m := m.fail 0) (m.gs ++ textE s) HO3.out Hown.out (by rw [List.length_append, ← HD.out, size_l]) (by rw [strCells_bytes, HD.out, byteCells_append]; rfl), keep_trans HK.out (keep_set b w3 2 _)⟩
/-! ### how far a step leads -/
/-- It writes at most K bytes, and goes on reading, or not, as before. -/
def Lim {α : Type} (K : Nat) (f : St α) : Prop := ∀ m, (f m).2.gs.length ≤ m.gs.length + K ∧ (f m).2.rest.size ≤ m.rest.size ∧ (f m).2.reading = m.reading
theorem lim_pure {α : Type} (a : α) : Lim 0 (pureS a) := fun _ => ⟨Nat.le_refl _, Nat.le_refl _, rfl⟩
theorem lim_bind {α β : Type} {f : St α} {g : α → St β} {K K' : Nat} (hf : Lim K f) (hg : ∀ a, Lim K' (g a)) : Lim (K + K') (bindS f g) := by
  intro m
  have h1 := hf m
  have h2 := hg (f m).1 (f m).2
  unfold bindS
  exact ⟨by omega, by omega, by rw [h2.2.2, h1.2.2]⟩
theorem lim_mono {α : Type} {f : St α} {K K' : Nat} (h : Lim K f) (hk : K ≤ K') : Lim K' f := fun m => ⟨Nat.le_trans (h m).1 (by omega), (h m).2⟩
theorem adv_lim (m : M) (k e : Nat) : (m.adv k e).gs = m.gs ∧ (m.adv k e).rest.size ≤ m.rest.size ∧ (m.adv k e).reading = m.reading := by
  unfold M.adv
  split
  · exact ⟨rfl, by show (m.rest.extract k m.rest.size).size ≤ _; rw [ByteArray.size_extract]; omega, rfl⟩
  · exact ⟨rfl, Nat.zero_le _, rfl⟩
theorem lim_lim {most n : Nat} (h : n < 18446744073709551616) : Lim 10 (limS most n) := by
  intro m
  unfold limS
  split
  · split
    · have := adv_lim m (rd m.rest.data.toList).2.1 2
      exact ⟨by simp only; rw [this.1]; omega, this.2⟩
    · have := adv_lim m (rd m.rest.data.toList).2.1 (rd m.rest.data.toList).2.2
      exact ⟨by simp only; rw [this.1]; omega, this.2⟩
  · exact ⟨by simp only [List.length_append]; have := num_len10 h; omega, Nat.le_refl _, rfl⟩
theorem lim_txt {s : ByteArray} (h : isNote V8 s = true) : Lim 17 (txtS s) := by
  intro m
  unfold txtS
  split
  · have := adv_lim m (rdT m.rest).2.1 (rdT m.rest).2.2
    exact ⟨by simp only; rw [this.1]; omega, this.2⟩
  · exact ⟨by simp only [List.length_append]; have := text_len h; omega, Nat.le_refl _, rfl⟩
theorem lim_numb {n : Int} (h : n ≤ 4611686018427387904) : Lim 10 (numbS n) := lim_bind (K' := 0) (lim_lim (by omega)) (fun _ => lim_pure _)
theorem lim_sgn {n : Int} (h : zig n ≤ 4611686018427387904) : Lim 10 (sgnS n) := lim_bind (K' := 0) (lim_lim (by omega)) (fun _ => lim_pure _)
theorem lim_if {α : Type} {f : St α} {K : Nat} (c : Bool) (a : α) (h : c = true → Lim K f) : Lim K (if c then f else pureS a) := by
  cases c with
  | true => exact h rfl
  | false => exact lim_mono (lim_pure a) (Nat.zero_le _)
theorem lim_job {v : Int} {j : JobD} (h : okJob V8 v j) : Lim 64 (jobS v j) := by
  obtain ⟨h1, h2, h3, h4, h5⟩ := h
  exact lim_bind (K' := 47) (lim_txt h1) fun _ => lim_bind (K' := 37) (lim_sgn h2) fun _ => lim_bind (K' := 27) (lim_numb h3.2) fun _ => lim_bind (K' := 17) (lim_if _ _ (fun hv => by rw [if_pos hv] at h4; exact lim_numb h4.2)) fun _ => lim_bind (K' := 0) (lim_if _ _ (fun hv => by rw [if_pos hv] at h5; exact lim_txt h5)) fun _ => lim_pure _
theorem lim_node {v : Int} {j : NodeD} (h : okNode V8 v j) : Lim 64 (nodeS v j) := by
  obtain ⟨h1, h2, h3⟩ := h
  exact lim_mono (lim_bind (K' := 27) (lim_txt h1) fun _ => lim_bind (K' := 17) (lim_numb h2.2) fun _ => lim_bind (K' := 0) (lim_if _ _ (fun hv => by rw [if_pos hv] at h3; exact lim_txt h3)) fun _ => lim_pure _) (by omega)
theorem lim_lease {j : LeaseD} (h : okLease V8 j) : Lim 64 (leaseS j) := by
  obtain ⟨h1, h2, h3⟩ := h
  exact lim_mono (lim_bind (K' := 27) (lim_txt h1) fun _ => lim_bind (K' := 10) (lim_txt h2) fun _ => lim_bind (K' := 0) (lim_numb h3.2) fun _ => lim_pure _) (by omega)
theorem lim_go {α : Type} {f : α → St α} {K : Nat} : ∀ (l : List α), (∀ x ∈ l, Lim K (f x)) → Lim (K * l.length) (goS f l)
  | [], _ => lim_pure _
  | x :: l, h => by
    have h1 := lim_bind (K' := K * l.length + 0) (h x (by simp)) fun y => lim_bind (lim_go l (fun z hz => h z (by simp [hz]))) fun ys => lim_pure (y :: ys)
    refine lim_mono h1 ?_
    rw [List.length_cons, Nat.mul_add]
    omega
theorem v_empty : isNote V8 ⟨#[]⟩ = true := rfl
theorem ok_zJob (v : Int) : okJob V8 v zJob := by
  refine ⟨v_empty, by decide, by decide, ?_, ?_⟩
  · split
    · decide
    · rfl
  · split
    · exact v_empty
    · rfl
theorem ok_zNode (v : Int) : okNode V8 v zNode := by
  refine ⟨v_empty, by decide, ?_⟩
  split
  · exact v_empty
  · rfl
theorem ok_zLease : okLease V8 zLease := ⟨v_empty, v_empty, by decide⟩
end Go.Proofs.YtdbopgmckndmeaaDoor
