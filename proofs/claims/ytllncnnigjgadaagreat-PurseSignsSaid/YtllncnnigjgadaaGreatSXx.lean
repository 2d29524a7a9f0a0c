/-
  bits.RotateLeft32 and what is made of it (rotated, the four sums, choose, majority), at every word; the document's own 'turned' too.
  The round words, the first state, and the document's own round words, as the program answers them: for every world.
  The message schedule of every block of 64 bytes, as the program lays it.
  A block on a state: for every state, schedule and round words the program answers the eight words that the document tells.
  The bytes of a state, and the padding of every number of bytes, as the program lays them.
  The padding of every number of bytes, as the program lays it: in memory of the call's own.
  absorb: for every state and all bytes, the state behind their whole blocks, and the bytes that are left.
  finish and Sum: for all bytes the program answers their hash.
  Sum, Round, Schedule and Block: for every input the program answers as the document says.
  Arrays of integers are equal to themselves: the hashes, schedules and states of package sha.
-/
import Derived.Test.YtllncnnigjgadaaGreatChecked
import Derived.Test.YtllncnnigjgadaaGreatPs
import Derived.WalkKit
import Derived.WalkLawsBesides
import Derived.Outline
import Derived.Lib.Hide
import Derived.Deep.QuietTactic
import Derived.BigQuiet
import Derived.Deep.Draws
import Derived.Test.YtllncnnigjgadaaGreatMs
import Derived.StillTailTactics
import Derived.Lib.MinMax
import Derived.ChangeKeysEq
import Derived.Test.YtllncnnigjgadaaGreatSX
namespace Go.Proofs.YtllncnnigjgadaaGreat
open Go.RowKit

end Go.Proofs.YtllncnnigjgadaaGreat

namespace Go.Proofs.YtllncnnigjgadaaGreat
open Go.RowKit

end Go.Proofs.YtllncnnigjgadaaGreat

namespace Go.Proofs.YtllncnnigjgadaaGreat
open Go.RowKit

end Go.Proofs.YtllncnnigjgadaaGreat

namespace Go.Proofs.YtllncnnigjgadaaGreat
open Go.RowKit

end Go.Proofs.YtllncnnigjgadaaGreat

namespace Go.Proofs.YtllncnnigjgadaaGreat
open Go.RowKit

end Go.Proofs.YtllncnnigjgadaaGreat

namespace Go.Proofs.YtllncnnigjgadaaGreat
open Go.RowKit

end Go.Proofs.YtllncnnigjgadaaGreat

namespace Go.Proofs.YtllncnnigjgadaaGreat
open Go.RowKit

end Go.Proofs.YtllncnnigjgadaaGreat

namespace Go.Proofs.YtllncnnigjgadaaGreat
open Go.RowKit

end Go.Proofs.YtllncnnigjgadaaGreat

namespace Go.Proofs.YtllncnnigjgadaaGreat
open Go.RowKit

end Go.Proofs.YtllncnnigjgadaaGreat

namespace Go.Proofs.YtllncnnigjgadaaGreat
open Go.RowKit

theorem eqItems_same {P : Program} (w : World) (d : Nat) (e : TypeId) (k : IntKind) (he : P.underlying e = some (.int k)) (cs : List Value) (h : ∀ v ∈ cs, ∃ z, v = .int k z) :
    ∀ is : List Nat, (∀ i ∈ is, i < cs.length) → (Op.eqItems (d + 1) e 1 cs.toArray cs.toArray is).run P w = .ok true w
  | [], _ => by simp [Op.eqItems]
  | i :: is, hi => by
    have hlt := hi i (by simp)
    obtain ⟨z, hz⟩ := h cs[i] (List.getElem_mem hlt)
    have hp : (part e cs.toArray (i * 1)).run P w = .ok (.int k z) w := by
      simp [part, isAgg, run_underlying he, List.getElem?_eq_getElem hlt, hz]
    have hq : (Op.equalIn (d + 1) e (.int k z) (.int k z)).run P w = .ok true w := by
      rw [run_equalIn_int w d e k k z z he]; simp
    simp only [Op.eqItems, Sem.run_bind, hp, hq, Result.andThen_ok]
    simpa using eqItems_same w d e k he cs h is (fun j hj => hi j (by simp [hj]))

theorem bys_ints (l : List UInt8) : ∀ v ∈ bys l, ∃ z, v = .int .u8 z := fun v hv => by
  obtain ⟨n, _, rfl⟩ := List.mem_map.1 hv; exact ⟨_, rfl⟩
end Go.Proofs.YtllncnnigjgadaaGreat
