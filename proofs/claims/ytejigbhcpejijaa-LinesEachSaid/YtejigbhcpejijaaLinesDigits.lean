/-
  LAYER 1: the document's digits of a number.
-/
import Derived.Test.YtejigbhcpejijaaLinesDec
namespace Go.Proofs.Ytejigbhcpejijaa.Ln
open Go.RowKit

theorem chr_int (n : Nat) : (48 + ((n : Int) % 10)) = ((chr n).toNat : Int) := by
  unfold chr
  rw [UInt8.toNat_ofNat']
  have : n % 10 < 10 := Nat.mod_lt _ (by decide)
  omega
theorem dec_len : ∀ (k n : Nat), n ≤ k → (decS n).length ≤ n + 1 := by
  intro k
  induction k with
  | zero => intro n h; rw [decS_small (by omega)]; simp
  | succ k ih =>
    intro n h
    by_cases hn : n < 10
    · rw [decS_small hn]; simp
    · rw [decS_big hn, List.length_append, List.length_singleton]
      have := ih (n / 10) (by omega)
      omega

set_option maxRecDepth 100000 in
set_option maxHeartbeats 2000000 in
theorem digits_any (n : Nat) (hn : n ≤ 1099511627776) (w : World) :
    Calls Try.prog 42 #[.int .i64 (n : Int)] w fun e w' => e = .returned (.string ⟨(decS n).toArray⟩) ∧ Below w.heap.size w w' := by
  have hlen := dec_len n n (Nat.le_refl _)
  have HL := hid hlen
  have HR := hid (rfl : decS n = decS n)
  clear hlen HR
  generalize hD : decS n = D at *
  have HD := hid hD
  clear hD
  go_enter Try.func42, Try.ntmps42
  go_wp2_with fail
  go_loopw [0, 3] (fun v u wr => ∃ (k : Nat) (s : List UInt8), k ≤ n ∧ v = .int .i64 (k : Nat) ∧ u = .string ⟨s.toArray⟩ ∧ D = decS k ++ s ∧ Below w.heap.size w wr) (fun v _ _ => (intOf v).toNat + 1)
  case atStart => exact ⟨n, [], by omega, rfl, rfl, by rw [HD.out]; simp, Below.refl _ _⟩
  case round =>
    obtain ⟨k, s, hk, rfl, rfl, hds, hbl⟩ := hrel
    have HDS := hid hds
    have hsl : s.length ≤ 1099511627777 := by
      have := congrArg List.length hds
      rw [List.length_append] at this
      have := HL.out
      omega
    clear hds
    have cv := run_one_byte (P := Try.prog) wr 72 9 5 5 _ _ (chr_int k) Try.underlying72 Try.underlying5 Try.underlying9
    have hcat : ∀ (a b : List UInt8), (⟨a.toArray⟩ : ByteArray) ++ ⟨b.toArray⟩ = ⟨(a ++ b).toArray⟩ := fun a b => by
      apply ByteArray.ext; simp
    by_cases hk10 : k < 10
    · have hq : (k : Int) / 10 ≤ 0 := by omega
      go_wp2_with fail
      go_ret
      exact ⟨ret_str (by rw [HDS.out, decS_small hk10]; rfl), below_alloc hbl _⟩
    · have hq : ¬ (k : Int) / 10 ≤ 0 := by omega
      go_wp2_with fail
      go_roundw
      case rel => exact ⟨k / 10, chr k :: s, by omega, by go_num, rfl, by rw [HDS.out, dec_step hk10], below_alloc hbl _⟩
      case measure => simp [intOf]; omega

end Go.Proofs.Ytejigbhcpejijaa.Ln
