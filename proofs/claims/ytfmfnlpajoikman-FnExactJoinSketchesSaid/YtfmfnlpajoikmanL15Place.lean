/-
  Contracts: where a name stands in a row of a sketch: impl.PlaceIn with what it calls, spec.PlaceIn.
-/
import Derived.Test.YtfmfnlpajoikmanL3Word1
import Derived.Test.YtfmfnlpajoikmanL3SpecName
import Derived.Test.YtfmfnlpajoikmanIn
import Derived.Test.YtfmfnlpajoikmanL8Gen
import Derived.Deep.QuietTactic
import Derived.Deep.DeepCutAuto
import Derived.BigQuiet
namespace Go.Proofs.Ytfmfnlpajoikman.L15
open Go.RowKit L1
set_option linter.unusedVariables false

/-- The hash of a name's first bytes, of a row. -/
def hp (r : Int) (l : List Int) : Nat → Int
  | 0 => r + 3
  | k + 1 => Int.tmod ((2 * r + 29) * hp r l k + l.getD k 0) 10007
theorem hp_bd {r : Int} (hr : 0 ≤ r ∧ r ≤ 2) {l : List Int} (hl : ∀ k, 0 ≤ l.getD k 0) : ∀ k, 0 ≤ hp r l k ∧ hp r l k < 10007
  | 0 => by simp [hp]; omega
  | k + 1 => by
    have h1 := hp_bd hr hl k
    have h2 := hl k
    have h3 : 0 ≤ (2 * r + 29) * hp r l k := Int.mul_nonneg (by omega) h1.1
    unfold hp
    rw [Int.tmod_eq_emod_of_nonneg (by omega)]
    omega
theorem hp_mul {r h : Int} (hr : 0 ≤ r ∧ r ≤ 2) (hh : 0 ≤ h ∧ h < 10007) : 0 ≤ (2 * r + 29) * h ∧ (2 * r + 29) * h ≤ 330231 := by
  have h3 : 0 ≤ (2 * r + 29) * h := Int.mul_nonneg (by omega) hh.1
  have h4 : (2 * r + 29) * h ≤ 33 * 10007 := Int.mul_le_mul (by omega) (by omega) hh.1 (by omega)
  omega
/-- Where a name stands in a row. -/
def plc (r : Int) (s : ByteArray) : Int := Int.tmod (hp r (bts s 0) s.size) 11
theorem plc_bd {r : Int} (hr : 0 ≤ r ∧ r ≤ 2) (s : ByteArray) : 0 ≤ plc r s ∧ plc r s < 11 := by
  have h := hp_bd hr (fun k => (bts_byte s 0 k).1) s.size
  unfold plc
  rw [Int.tmod_eq_emod_of_nonneg h.1]
  omega
theorem bts_get0 (s : ByteArray) (k : Nat) (h : k < s.size) : (bts s 0).getD k 0 = ((s[k]'h).toNat : Int) := by
  have := bts_get s 0 k (by omega)
  simp only [Nat.zero_add] at this
  exact this
theorem below_drew15 {N : Nat} {w w' : World} (h : Below N w w') : ∀ q, Below N w (w'.drewN q)
  | 0 => h
  | q + 1 => (below_drew15 h q).drew
set_option maxRecDepth 100000 in
set_option maxHeartbeats 400000 in
theorem hashOfRow_any (r : Int) (w : World) (hr : 0 ≤ r ∧ r ≤ 2) :
    Calls Try.prog 45 #[.int .i64 r] w fun e w' => e = .returned (.agg #[.int .i64 (3 + r), .int .i64 (29 + 2 * r)]) ∧ Below w.heap.size w w' := by
  obtain ⟨h1, h2⟩ := hr
  have B := hide (Below.refl w.heap.size w)
  go_enter Try.func45, Try.ntmps45
  go_wp2
  refine bodyPost_ret (v := .agg #[.int .i64 (3 + r), .int .i64 (29 + 2 * r)]) (by simp [results, Try.f45, go_sem]) rfl ⟨by first | rfl | (congr 4 <;> omega), ?_⟩
  exact (Below.refl _ _).alloc (Nat.le_refl _) _
set_option maxRecDepth 100000 in
set_option maxHeartbeats 1000000 in
theorem placeOf_any (r : Int) (s : ByteArray) (w : World) (hr : 0 ≤ r ∧ r ≤ 2) (hs : s.size ≤ 9223372036854775807) (p : Int) (hp : p = plc r s) :
    Calls Try.prog 46 #[.agg #[.int .i64 (3 + r), .int .i64 (29 + 2 * r)], .string s] w fun e w' => e = .returned (.int .i64 p) ∧ Below w.heap.size w w' := by
  have hbd := hide (hp_bd hr (fun k => (bts_byte s 0 k).1))
  have hby := hide (bts_byte s 0)
  have HR := hide hr
  have HP := hide hp
  have B := (Below.refl w.heap.size w).alloc (Nat.le_refl _) (.cells #[.int .i64 (3 + r), .int .i64 (29 + 2 * r)] 69 (0, 0))
  have hK : (w.alloc (.cells #[.int .i64 (3 + r), .int .i64 (29 + 2 * r)] 69 (0, 0))).cell? ⟨w.heap.size, 1, none⟩ = some (.int .i64 (29 + 2 * r)) := by
    unfold World.cell?
    rw [L8.blk_new]
    rfl
  have H0 := hide (And.intro hK B)
  clear hr hp B hK
  go_enter Try.func46, Try.ntmps46
  go_wp2
  go_loopw [5, 11] (fun h i wr => ∃ k : Nat, k ≤ s.size ∧ i = .int .i64 k ∧ h = .int .i64 (L15.hp r (bts s 0) k) ∧ wr.cell? ⟨w.heap.size, 1, none⟩ = some (.int .i64 (29 + 2 * r)) ∧ Below w.heap.size w wr) (fun _ i _ => s.size - (intOf i).toNat)
  case atStart => exact ⟨0, by omega, rfl, by rw [show (3 : Int) + r = r + 3 by omega]; rfl, H0.out⟩
  case round =>
    obtain ⟨k, hk, rfl, rfl, hc, hbel⟩ := hrel
    by_cases hlt : k < s.size
    · have hltI : (k : Int) < (s.size : Int) := by omega
      have hb := bts_get0 s k hlt
      have h1 := hbd.out k
      have h2 := hby.out k
      have h3 := hp_mul HR.out h1
      have hn : Int.tmod ((29 + 2 * r) * L15.hp r (bts s 0) k + (bts s 0).getD k 0) 10007 = L15.hp r (bts s 0) (k + 1) := by rw [show (29 : Int) + 2 * r = 2 * r + 29 by omega]; rfl
      rw [show (2 : Int) * r + 29 = 29 + 2 * r by omega] at h3
      obtain ⟨b, hbe⟩ : ∃ b, b = (bts s 0).getD k 0 := ⟨_, rfl⟩
      rw [← hbe] at hb hn h2
      obtain ⟨h, hhe⟩ : ∃ h, h = L15.hp r (bts s 0) k := ⟨_, rfl⟩
      rw [← hhe] at hn h1 h3 ⊢
      obtain ⟨h', hhe'⟩ : ∃ h, h = L15.hp r (bts s 0) (k + 1) := ⟨_, rfl⟩
      rw [← hhe'] at hn
      obtain ⟨f, hf⟩ : ∃ f, f = 29 + 2 * r := ⟨_, rfl⟩
      rw [← hf] at h3 hn hc ⊢
      have HE := hide hhe'
      have hb' := hb.symm
      clear hbe hhe hhe' hb hf
      have HBL := hide hbel
      clear hbel
      go_upto_region 5 with fail
      go_quiet (fail)
      go_wp2
      go_roundw
      case rel => exact ⟨k + 1, by omega, by go_num, by rw [HE.out], by simpa using hc, below_drew15 HBL.out _⟩
      case measure => simp [intOf]; omega
    · obtain rfl : k = s.size := by omega
      have hltI : ¬ (s.size : Int) < (s.size : Int) := by omega
      have hx : Int.tmod (L15.hp r (bts s 0) s.size) 11 = p := HP.out.symm
      obtain ⟨h, hhe⟩ : ∃ h, h = L15.hp r (bts s 0) s.size := ⟨_, rfl⟩
      rw [← hhe] at hx ⊢
      clear hhe
      go_wp2
      go_ret
      exact ⟨rfl, hbel⟩
set_option maxRecDepth 100000 in
set_option maxHeartbeats 1000000 in
theorem l15Place_any (r : Int) (s : ByteArray) (w : World) (hr : 0 ≤ r ∧ r ≤ 2) (hs : s.size ≤ 9223372036854775807) (p : Int) (hp : p = plc r s) :
    Calls Try.prog 36 #[.int .i64 r, .string s] w fun e w' => e = .returned (.int .i64 p) ∧ w = w' := by
  have hbd := hide (hp_bd hr (fun k => (bts_byte s 0 k).1))
  have hby := hide (bts_byte s 0)
  have HR := hide hr
  have HP := hide hp
  obtain ⟨r0, r2⟩ := hr
  clear hp
  go_enter Try.func36, Try.ntmps36
  go_wp2
  go_loop [5, 6] (fun h i => ∃ k : Nat, k ≤ s.size ∧ i = .int .i64 k ∧ h = .int .i64 (L15.hp r (bts s 0) k)) (fun _ i => s.size - (intOf i).toNat)
  case atStart => exact ⟨0, by omega, rfl, rfl⟩
  case round =>
    obtain ⟨k, hk, rfl, rfl⟩ := hrel
    by_cases hlt : k < s.size
    · have hltI : (k : Int) < (s.size : Int) := by omega
      have hb := bts_get0 s k hlt
      have h1 := hbd.out k
      have h2 := hby.out k
      have h3 := hp_mul HR.out h1
      have hn : Int.tmod ((2 * r + 29) * L15.hp r (bts s 0) k + (bts s 0).getD k 0) 10007 = L15.hp r (bts s 0) (k + 1) := rfl
      obtain ⟨b, hbe⟩ : ∃ b, b = (bts s 0).getD k 0 := ⟨_, rfl⟩
      rw [← hbe] at hb hn h2
      obtain ⟨h, hhe⟩ : ∃ h, h = L15.hp r (bts s 0) k := ⟨_, rfl⟩
      rw [← hhe] at hn h1 h3 ⊢
      obtain ⟨h', hhe'⟩ : ∃ h, h = L15.hp r (bts s 0) (k + 1) := ⟨_, rfl⟩
      rw [← hhe'] at hn
      have HE := hide hhe'
      have hb' := hb.symm
      clear hbe hhe hhe' hb
      go_wp2
      go_round
      case rel => exact ⟨k + 1, by omega, by go_num, by rw [HE.out]⟩
      case measure => simp [intOf]; omega
    · obtain rfl : k = s.size := by omega
      have hltI : ¬ (s.size : Int) < (s.size : Int) := by omega
      have hx : Int.tmod (L15.hp r (bts s 0) s.size) 11 = p := HP.out.symm
      obtain ⟨h, hhe⟩ : ∃ h, h = L15.hp r (bts s 0) s.size := ⟨_, rfl⟩
      rw [← hhe] at hx ⊢
      clear hhe
      go_wp2
      go_ret
      exact ⟨rfl, rfl⟩
end Go.Proofs.Ytfmfnlpajoikman.L15
