/-
  The law OtsGoesOn: a chain from a step to another one, and from there on, is the chain from the first to the last.
-/
import Derived.Test.YtejeefkoalbcmaaOB
import Derived.Test.YtejeefkoalbcmaaEq
namespace Go.Proofs.Ytejeefkoalbcmaa
open Go.RowKit

/-- What Chain answers: of a chain that there is its end, else no hash and ErrArg. -/
inductive ChainIs (I seed : List UInt8) (q : Nat) (z i a b : Int) (y : List UInt8) : List UInt8 → Int → Prop
  | yes (k n m d : Nat) : z = (k : Int) → Wd k → i = (n : Int) → n < mny k → a = (m : Int) → b = ((m + d : Nat) : Int) → m + d ≤ gr k → ChainIs I seed q z i a b y (chn (pre20 I q) n m d y) 0
  | no : (¬ ∃ k n m d : Nat, z = (k : Int) ∧ Wd k ∧ i = (n : Int) ∧ n < mny k ∧ a = (m : Int) ∧ b = ((m + d : Nat) : Int) ∧ m + d ≤ gr k) → ChainIs I seed q z i a b y (List.replicate 32 0) 1
theorem ChainIs.length {I seed y : List UInt8} {q : Nat} {z i a b : Int} {r : List UInt8} {e : Int} (h : ChainIs I seed q z i a b y r e) (hy : y.length = 32) : r.length = 32 := by
  cases h with
  | yes k n m d => exact chn_length _ _ _ _ _ hy
  | no => simp
theorem noW_of {z : Int} {k : Nat} (h : NoW z) (hz : z = (k : Int)) (hk : Wd k) : False := by
  subst hz
  obtain ⟨h1, h2, h4, h8⟩ := h
  simp at h1 h2 h4 h8
  rcases hk with rfl | rfl | rfl | rfl <;> simp_all

/-- What the call answers. -/
def ChainPost (I seed : List UInt8) (q : Nat) (z i a b : Int) (y : List UInt8) (w : World) (e : Ending) (w' : World) : Prop :=
  ∃ r c, ChainIs I seed q z i a b y r c ∧ e = .returned (.tuple #[.agg (bys r).toArray, .int .i64 c]) ∧ Below w.heap.size w w'

theorem chainX_any (I seed y : List UInt8) (q : Nat) (z i a b : Int) (w : World) (hI : I.length = 16) (hs : seed.length = 32) (hy : y.length = 32) (hq : q < 4294967296) :
    Calls Try.prog 12 #[.agg (kcs I q seed z).toArray, .int .i64 i, .int .i64 a, .int .i64 b, .agg (bys y).toArray] w (ChainPost I seed q z i a b y w) := by
  have no : (¬ ∃ k n m d : Nat, z = (k : Int) ∧ Wd k ∧ i = (n : Int) ∧ n < mny k ∧ a = (m : Int) ∧ b = ((m + d : Nat) : Int) ∧ m + d ≤ gr k) → ∀ e w', TwoD (.agg z32.toArray) (.int .i64 1) w e w' → ChainPost I seed q z i a b y w e w' :=
    fun h e w' ⟨he, hb⟩ => ⟨_, _, .no h, he, hb⟩
  rcases width_or z with ⟨k, hk, rfl⟩ | hz
  · have hkk : ∀ k' : Nat, (k : Int) = (k' : Int) → k' = k := fun k' h => by omega
    by_cases hi : i < 0 ∨ (mny k : Int) ≤ i
    · refine (chainX_out I seed y q k i a b w hI hs hk hi).mono (no ?_)
      rintro ⟨k', n, m, d, h1, _, rfl, h2, _⟩
      obtain rfl := hkk k' h1
      omega
    · obtain ⟨n, rfl⟩ : ∃ n : Nat, i = (n : Int) := ⟨i.toNat, by omega⟩
      have hn : n < mny k := by omega
      by_cases ha : a < 0
      · refine (chainX_neg I seed y q k n a b w hI hs hk hn ha).mono (no ?_)
        rintro ⟨k', n, m, d, _, _, _, _, rfl, _⟩
        omega
      · by_cases hab : b < a
        · refine (chainX_rev I seed y q k n a b w hI hs hk hn (by omega) hab).mono (no ?_)
          rintro ⟨k', n, m, d, _, _, _, _, rfl, rfl, _⟩
          omega
        · by_cases hbl : (gr k : Int) < b
          · refine (chainX_far I seed y q k n a b w hI hs hk hn (by omega) (by omega) hbl).mono (no ?_)
            rintro ⟨k', n, m, d, h1, _, _, _, rfl, rfl, h3⟩
            obtain rfl := hkk k' h1
            omega
          · obtain ⟨m, rfl⟩ : ∃ m : Nat, a = (m : Int) := ⟨a.toNat, by omega⟩
            obtain ⟨d, rfl⟩ : ∃ d : Nat, b = ((m + d : Nat) : Int) := ⟨b.toNat - m, by omega⟩
            refine (chainX_yes I seed y q k n m d w hI hs hy hq hk hn (by omega)).mono ?_
            rintro e w' ⟨he, hb⟩
            exact ⟨_, _, .yes k n m d rfl hk rfl hn rfl rfl (by omega), he, hb⟩
  · refine (chainX_no I seed y q z i a b w hI hs hz).mono (no ?_)
    rintro ⟨k', n, m, d, h1, h2, _⟩
    exact noW_of hz h1 h2

theorem chain_goes {I seed y r s t : List UInt8} {q : Nat} {z i a b c : Int} {f g : Int} (h1 : ChainIs I seed q z i a b y r 0) (h2 : ChainIs I seed q z i b c r s f) (hf : f = 0) (h3 : ChainIs I seed q z i a c y t g) : g = 0 ∧ s = t ∧ (a = b → r = y) := by
  subst hf
  cases h1 with
  | yes k n m d e1 hk e2 hn e3 e4 hl =>
    cases h2 with
    | yes k' n' m' d' e1' hk' e2' hn' e3' e4' hl' =>
      obtain rfl : k' = k := by omega
      obtain rfl : n' = n := by omega
      obtain rfl : m' = m + d := by omega
      cases h3 with
      | yes k2 n2 m2 d2 f1 _ f2 _ f3 f4 _ =>
        obtain rfl : n2 = n' := by omega
        obtain rfl : m2 = m := by omega
        obtain rfl : d2 = d + d' := by omega
        refine ⟨rfl, chn_add _ _ _ _ _ _, fun hab => ?_⟩
        obtain rfl : d = 0 := by omega
        rfl
      | no h => exact absurd ⟨k', n', m, d + d', e1', hk, e2', hn', e3, by omega, by omega⟩ h
end Go.Proofs.Ytejeefkoalbcmaa
