/-
  The fixed question of the laws of layer 5, answered: the signature of 'a' leads to the public key with 'a', and not with 'b'. Of no program.
-/
import Derived.Test.YtllncnnigjgadaaGreatKw0
import Derived.Test.YtllncnnigjgadaaGreatKw1
import Derived.Test.YtllncnnigjgadaaGreatKw2
namespace Go.Proofs.YtllncnnigjgadaaGreat
def nK2 : Nat := 0xc3122ece488249d5634e41855272b86c843345d23359dcb86bcb5945fb81a6fa
def nK3 : Nat := 0xdc6f8d7ef6c0d4fcb9c79404d5f94b5853dca11172e06433d74ee8ec4dbc034a
def nKC : Nat := 0xd1effe5d5482de2b8d99756260f7d27e33a364f697cd4806a8986345204d3235
def nR : Nat := 0xcfc4c1bad5e55cb7524540577a89c82000c26bda9ab68dc14df149605d6930c4
def nRC : Nat := 0xffadc2b90bf8235f0a5ebcc94594e5734892bb5b1402b515532c95d9163d7320
theorem pub_0 : pubL (pre20 Z16 0) Z32 1 = be 32 nU0 := by
  refine of_val _ _ (hpub_length _ _) ?_
  unfold pubL
  rw [mny_1, uN_eq 0 _ (eN 0) (by omega) (endF_length _ _ _) (fun i hi => eN_eq 0 i (by omega) (by omega))]
  exact u_0
theorem pub_1 : pubL (pre20 Z16 1) Z32 1 = be 32 nU1 := by
  refine of_val _ _ (hpub_length _ _) ?_
  unfold pubL
  rw [mny_1, uN_eq 1 _ (eN 1) (by omega) (endF_length _ _ _) (fun i hi => eN_eq 1 i (by omega) (by omega))]
  exact u_1
theorem cnd_b : cndL (pre20 Z16 1) (sigL (pre20 Z16 1) Z32 [97] 1) [98] 1 = be 32 nUC := by
  refine of_val _ _ (hpub_length _ _) ?_
  unfold cndL cdig
  rw [hAt_sig0, rnd_is, msg_b, dig_b, mny_1]
  have hlen : ∀ i, i < 265 → (cndF (pre20 Z16 1) (sigL (pre20 Z16 1) Z32 [97] 1) (bits nDB) 1 i).length = 32 := by
    intro i hi
    unfold cndF
    rw [hAt_sig _ _ _ _ i (by rw [mny_1]; exact hi)]
    exact chn_length _ _ _ _ _ (sgnF_length _ _ _ _)
  let f : Nat → List UInt8 := fun i => if i < 265 then cndF (pre20 Z16 1) (sigL (pre20 Z16 1) Z32 [97] 1) (bits nDB) 1 i else Z32
  have hf : ∀ i, (f i).length = 32 := by
    intro i
    show (if i < 265 then _ else _ : List UInt8).length = 32
    split
    · exact hlen i (by assumption)
    · rfl
  have ef : rowsTo (cndF (pre20 Z16 1) (sigL (pre20 Z16 1) Z32 [97] 1) (bits nDB) 1) 265 = rowsTo f 265 := rowsTo_congr _ _ _ (fun i hi => by show _ = (if i < 265 then _ else _); rw [if_pos hi])
  rw [ef, uN_eq 1 f cN (by omega) hf (fun i hi => by show val (if i < 265 then _ else _) = _; rw [if_pos hi]; exact cN_eq i hi)]
  exact u_c
theorem k_2 : leafL Z16 2 (be 32 nU0) = be 32 nK2 := by
  refine of_val _ _ (leafL_length _ _ _) ?_
  unfold leafL
  rw [h54_eq _ (by decide +kernel)]
  decide +kernel
theorem k_3 : leafL Z16 3 (be 32 nU1) = be 32 nK3 := by
  refine of_val _ _ (leafL_length _ _ _) ?_
  unfold leafL
  rw [h54_eq _ (by decide +kernel)]
  decide +kernel
theorem k_c : leafL Z16 3 (be 32 nUC) = be 32 nKC := by
  refine of_val _ _ (leafL_length _ _ _) ?_
  unfold leafL
  rw [h54_eq _ (by decide +kernel)]
  decide +kernel
theorem r_1 : upL Z16 1 (be 32 nK2) (be 32 nK3) = be 32 nR := by
  refine of_val _ _ (upL_length _ _ _ _) ?_
  unfold upL
  rw [h86_eq _ (by decide +kernel)]
  decide +kernel
theorem r_c : upL Z16 1 (be 32 nK2) (be 32 nKC) = be 32 nRC := by
  refine of_val _ _ (upL_length _ _ _ _) ?_
  unfold upL
  rw [h86_eq _ (by decide +kernel)]
  decide +kernel
theorem root_is : knt Z16 Z32 1 2 1 1 = be 32 nR := by
  show upL Z16 1 (leafL Z16 2 (pubL (pre20 Z16 (2 - 2)) Z32 1)) (leafL Z16 3 (pubL (pre20 Z16 (3 - 2)) Z32 1)) = _
  rw [show 2 - 2 = 0 from rfl, show 3 - 2 = 1 from rfl, pub_0, pub_1, k_2, k_3, r_1]
/-- The signature of 'a' does not lead to the root with 'b'. -/
theorem not_b : lroot Z16 (sigL (pre20 Z16 1) Z32 [97] 1) [98] (sbl Z16 Z32 1 2 0 1 3) 1 1 1 ≠ knt Z16 Z32 1 2 1 1 := by
  have e : lroot Z16 (sigL (pre20 Z16 1) Z32 [97] 1) [98] (sbl Z16 Z32 1 2 0 1 3) 1 1 1 = be 32 nRC := by
    unfold lroot
    rw [cnd_b]
    show clm Z16 1 3 (leafL Z16 3 (be 32 nUC)) (leafL Z16 2 (pubL (pre20 Z16 (2 - 2)) Z32 1) ++ []) = _
    rw [show 2 - 2 = 0 from rfl, pub_0, k_2, k_c, List.append_nil]
    show (if 3 % 2 = 0 then upL Z16 1 (be 32 nKC) ((be 32 nK2).take 32) else upL Z16 1 ((be 32 nK2).take 32) (be 32 nKC)) = _
    rw [if_neg (by decide), List.take_of_length_le (by rw [be_length]; omega), r_c]
  rw [e, root_is]
  intro h
  have := congrArg val h
  rw [val_be, val_be] at this
  revert this
  decide +kernel
end Go.Proofs.YtllncnnigjgadaaGreat
