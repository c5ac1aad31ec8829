/-
  Contracts: a rising set's cut, hasAt and leap: the first place from a place on with a number that is great enough.
-/
import Derived.Test.YtapffbbmofhpobdL4Search
namespace Go.Proofs.Ytapffbbmofhpobd.L4
open Go.RowKit L1
set_option linter.unusedVariables false

set_option maxRecDepth 100000 in
set_option maxHeartbeats 1000000 in
theorem cut_none (a : Option Addr) (n cap f : Nat) (w : World) (hf : f ≤ n) (hc : n ≤ cap) (hc2 : cap ≤ maxLen) (h0 : a = none → cap = 0) :
    Calls Try.prog 69 #[.slice a n cap, .int .i64 f, .int .i64 f] w fun e w' => e = .returned (.slice a 0 0) ∧ w = w' := by
  unfold maxLen at hc2
  have hfI : (f : Int) ≤ (cap : Int) := by omega
  cases a with
  | none =>
    obtain rfl : cap = 0 := h0 rfl
    obtain rfl : n = 0 := by omega
    obtain rfl : f = 0 := by omega
    go_enter Try.func69, Try.ntmps69
    go_wp2
    go_ret
    exact ⟨rfl, rfl⟩
  | some x =>
    go_enter Try.func69, Try.ntmps69
    go_wp2
    go_ret
    exact ⟨by simp, rfl⟩
set_option maxRecDepth 100000 in
set_option maxHeartbeats 1000000 in
theorem cut_some (b off n cap f t : Nat) (w : World) (hf : f < t) (ht : t ≤ n) (hc : n ≤ cap) (hc2 : cap ≤ maxLen) :
    Calls Try.prog 69 #[.slice (some ⟨b, off, none⟩) n cap, .int .i64 f, .int .i64 t] w fun e w' => e = .returned (.slice (some ⟨b, off + f, none⟩) (t - f) (t - f)) ∧ w = w' := by
  unfold maxLen at hc2
  have h1 : (f : Int) ≤ (t : Int) := by omega
  have h2 : (t : Int) ≤ (cap : Int) := by omega
  have h3 : ¬ t - f = 0 := by omega
  have h4 : (f : Int) < (t : Int) := by omega
  go_enter Try.func69, Try.ntmps69
  go_wp2
  go_ret
  exact ⟨by simp, rfl⟩
/-- A piece of a rising set. -/
theorem cut_any (a : Option Addr) (l : List Int) (n cap f t : Nat) (w : World) (hn : l.length = n) (hs : Sl w a l) (hf : f ≤ t) (ht : t ≤ n) (hc : n ≤ cap) (hc2 : cap ≤ maxLen) (h0 : a = none → cap = 0) :
    Calls Try.prog 69 #[.slice a n cap, .int .i64 f, .int .i64 t] w fun e w' => (∃ a', e = .returned (.slice a' (t - f) (t - f)) ∧ Hid (Sl w a' ((l.drop f).take (t - f)))) ∧ w = w' := by
  by_cases hft : f = t
  · subst hft
    refine (cut_none a n cap f w ht hc hc2 h0).mono ?_
    rintro e w' ⟨rfl, rfl⟩
    exact ⟨⟨a, by simp, fun i hi => by simp at hi⟩, rfl⟩
  · obtain ⟨b, off, rfl, _⟩ := hs f (by omega)
    refine (cut_some b off n cap f t w (by omega) ht hc hc2).mono ?_
    rintro e w' ⟨rfl, rfl⟩
    refine ⟨⟨_, rfl, fun i hi => ?_⟩, rfl⟩
    have hi' : i < t - f ∧ f + i < l.length := by simp at hi; omega
    refine ⟨b, off + f, rfl, ?_⟩
    have := hs.at (f + i) hi'.2
    rw [Nat.add_assoc, this, getD_eq hi'.2, getD_eq hi]
    simp

set_option maxRecDepth 100000 in
set_option maxHeartbeats 1000000 in
theorem hasAt_any (a : Option Addr) (l : List Int) (n cap k : Nat) (x : Int) (w : World) (hn : l.length = n) (hs : Sl w a l) (bb : Bool) (hbb : bb = true ↔ k < l.length ∧ l.getD k 0 = x) :
    Calls Try.prog 61 #[.slice a n cap, .int .i64 k, .int .i64 x] w fun e w' => e = .returned (.bool bb) ∧ w = w' := by
  by_cases hlt : k < n
  · obtain ⟨b, off, rfl, hc⟩ := hs k (by omega)
    obtain ⟨y, hy⟩ : ∃ y, y = l.getD k 0 := ⟨_, rfl⟩
    rw [← hy] at hc hbb
    have hbb' : bb = (y == x) := by rw [Bool.eq_iff_iff, hbb]; simp; omega
    have HB := hide hbb'
    have hltI : (k : Int) < (n : Int) := by omega
    clear hbb hbb' hy hs hn
    go_enter Try.func61, Try.ntmps61
    go_wp2
    go_ret
    exact ⟨by rw [HB.out]; rfl, rfl⟩
  · have hb : bb = false := bool_noT hbb (by omega)
    have HB := hide hb
    have hltI : ¬ (k : Int) < (n : Int) := by omega
    clear hbb hb hs hn
    go_enter Try.func61, Try.ntmps61
    go_wp2
    go_ret
    exact ⟨by rw [HB.out]; rfl, rfl⟩

/-- What the search in the last stretch tells. -/
theorem leap_end {l : List Int} {f f' e : Nat} {x : Int} (hr : Rise l) (h1 : f ≤ f') (h2 : f' ≤ e) (h3 : e ≤ l.length) (h4 : ∀ j, f ≤ j → j < f' → l.getD j 0 < x) (h5 : e < l.length → ¬ l.getD e 0 < x) : leap l f x = f' + lp x ((l.drop f').take (e - f')) := by
  have hl : ((l.drop f').take (e - f')).length = e - f' := by simp; omega
  have hle := lp_le x ((l.drop f').take (e - f'))
  rw [hl] at hle
  have hget : ∀ j, j < e - f' → ((l.drop f').take (e - f')).getD j 0 = l.getD (f' + j) 0 := fun j hj => by
    rw [getD_eq (by omega), getD_eq (by omega)]
    simp
  refine leap_at (by omega) (by omega) (fun j q1 q2 => ?_) (fun q => ?_)
  · by_cases hj : j < f'
    · exact h4 j q1 hj
    · have := lp_lt x ((l.drop f').take (e - f')) (j - f') (by omega)
      rw [hget _ (by omega), show f' + (j - f') = j by omega] at this
      exact this
  · by_cases he : lp x ((l.drop f').take (e - f')) < e - f'
    · have := lp_stop x ((l.drop f').take (e - f')) (by omega)
      rw [hget _ he] at this
      exact this
    · have e1 : f' + lp x ((l.drop f').take (e - f')) = e := by omega
      rw [e1] at q ⊢
      exact h5 q

set_option maxRecDepth 100000 in
set_option maxHeartbeats 2000000 in
theorem leap_any (a : Option Addr) (l : List Int) (n cap f : Nat) (x : Int) (w : World) (hn : l.length = n) (hs : Sl w a l) (hn2 : n ≤ 1048576) (hf : f ≤ n) (hc : n ≤ cap) (hc2 : cap ≤ maxLen) (h0 : a = none → cap = 0) (hr : Rise l) (r : Nat) (hres : leap l f x = r) :
    Calls Try.prog 60 #[.slice a n cap, .int .i64 f, .int .i64 x] w fun e w' => e = .returned (.int .i64 r) ∧ Below w.heap.size w w' := by
  have HC := hide (fun f t w hs h1 h2 => cut_any a l n cap f t w hn hs h1 h2 hc hc2 h0)
  have HR := hide hr
  have HS := hide hs
  have HN := hide hn
  have HRES := hide hres
  clear hc hc2 h0 hr hs hn hres
  go_enter Try.func60, Try.ntmps60
  go_wp2
  go_loop [1, 7] (fun s1 s7 => ∃ g : Nat, f ≤ g ∧ g ≤ n ∧ s1 = .int .i64 g ∧ s7 = .int .i64 ((g : Int) - (f : Int) + 1) ∧ Hid (∀ j, f ≤ j → j < g → l.getD j 0 < x)) (fun s1 _ => n - (intOf s1).toNat)
  case atStart => exact ⟨f, Nat.le_refl _, hf, rfl, by simp, fun j h1 h2 => absurd h2 (by omega)⟩
  case round =>
    obtain ⟨g, hfg, hgn, rfl, rfl, HJ⟩ := hrel
    obtain ⟨d, hd⟩ : ∃ d : Nat, d = g - f + 1 := ⟨_, rfl⟩
    have hdI : (g : Int) - (f : Int) + 1 = (d : Int) := by omega
    rw [hdI]
    have HD := hide hd
    have hd1 : 1 ≤ d := by omega
    have hd2 : d ≤ n + 1 := by omega
    clear hd hdI
    by_cases hin : g + d ≤ n
    · obtain ⟨b, off, rfl, hc⟩ := HS.out (g + d - 1) (by rw [HN.out]; omega)
      obtain ⟨y, hy⟩ : ∃ y, y = l.getD (g + d - 1) 0 := ⟨_, rfl⟩
      rw [← hy] at hc
      have HY := hide hy.symm
      have hinI : (g : Int) + (d : Int) ≤ (n : Int) := by omega
      have hix : (g : Int) + (d : Int) - 1 = ((g + d - 1 : Nat) : Int) := by omega
      have hix2 : ((g + d - 1 : Nat) : Int) < (n : Int) := by omega
      clear hy
      by_cases hyx : y < x
      · go_wp2
        go_round
        case rel =>
          refine ⟨g + d, by omega, hin, by go_num, ?_, ?_⟩
          · have := HD.out
            have e : ((g + d : Nat) : Int) - (f : Int) + 1 = (d : Int) * 2 := by omega
            rw [e]
          · intro j q1 q2
            have := rise_le HR.out (show j ≤ g + d - 1 by omega) (by rw [HN.out]; omega)
            rw [HY.out] at this
            omega
        case measure => simp [intOf]; omega
      · have hend := leap_end HR.out hfg (show g ≤ g + d - 1 by omega) (by rw [HN.out]; omega) HJ.out (fun _ => by rw [HY.out]; exact hyx)
        rw [HRES.out] at hend
        have e1 : g + d - 1 - g = d - 1 := by omega
        rw [e1] at hend
        have HE := hide hend
        have hmin : min ((g + d - 1 : Nat) : Int) (n : Int) = ((g + d - 1 : Nat) : Int) := by omega
        clear hend e1
        go_wp2_with fail
        refine (HC.out g (g + d - 1) _ HS.out (by omega) (by omega)).mono ?_
        rintro e w1 ⟨⟨a', rfl, hsl⟩, rfl⟩
        have e2 : g + d - 1 - g = d - 1 := by omega
        rw [e2] at hsl ⊢
        have HSL := hide hsl
        clear hsl e2
        go_wp2_with fail
        refine (search_any a' ((l.drop g).take (d - 1)) (d - 1) (d - 1) x _ (by have := HN.out; simp; omega) (by omega) HSL.out ((HR.out.sublist (List.drop_sublist _ _)).sublist (List.take_sublist _ _))).mono ?_
        rintro e w2 ⟨ok, rfl, hb⟩
        have B := hide hb
        have hlp := lp_le x ((l.drop g).take (d - 1))
        have hll : ((l.drop g).take (d - 1)).length = d - 1 := by have := HN.out; simp; omega
        rw [hll] at hlp
        obtain ⟨m, hm⟩ : ∃ m, m = lp x ((l.drop g).take (d - 1)) := ⟨_, rfl⟩
        rw [← hm] at hlp ⊢
        have E := HE.out
        rw [← hm] at E
        have EE := hide E
        clear hb hll hm E HE
        go_wp2
        go_ret
        exact ⟨by rw [EE.out]; simp, B.out⟩
    · have hinI : ¬ (g : Int) + (d : Int) ≤ (n : Int) := by omega
      have hend := leap_end HR.out hfg hgn (by rw [HN.out]; omega) HJ.out (fun h => by rw [HN.out] at h; omega)
      rw [HRES.out] at hend
      have HE := hide hend
      have hix : (g : Int) + (d : Int) - 1 = ((g + d - 1 : Nat) : Int) := by omega
      clear hend
      have hmin : min ((g + d - 1 : Nat) : Int) (n : Int) = (n : Int) := by omega
      go_wp2_with fail
      refine (HC.out g n _ HS.out hgn (Nat.le_refl _)).mono ?_
      rintro e w1 ⟨⟨a', rfl, hsl⟩, rfl⟩
      have HSL := hide hsl
      clear hsl
      go_wp2_with fail
      refine (search_any a' ((l.drop g).take (n - g)) (n - g) (n - g) x _ (by have := HN.out; simp; omega) (by omega) HSL.out ((HR.out.sublist (List.drop_sublist _ _)).sublist (List.take_sublist _ _))).mono ?_
      rintro e w2 ⟨ok, rfl, hb⟩
      have B := hide hb
      have hlp := lp_le x ((l.drop g).take (n - g))
      have hll : ((l.drop g).take (n - g)).length = n - g := by have := HN.out; simp; omega
      rw [hll] at hlp
      obtain ⟨m, hm⟩ : ∃ m, m = lp x ((l.drop g).take (n - g)) := ⟨_, rfl⟩
      rw [← hm] at hlp ⊢
      have E := HE.out
      rw [← hm] at E
      have EE := hide E
      clear hb hll hm E HE
      go_wp2
      go_ret
      exact ⟨by rw [EE.out]; simp, B.out⟩
end Go.Proofs.Ytapffbbmofhpobd.L4
