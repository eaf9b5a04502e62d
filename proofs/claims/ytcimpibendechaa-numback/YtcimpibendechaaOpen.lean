/- A slice of bytes that came in, as the bytes that it holds. -/
import Derived.Test.YtcimpibendechaaHas
import Derived.ProofKit
import Derived.OpenShut
namespace Go.Proofs.Ytcimpibendechaa
open Go.ChangeShapes Go.WideShapes Go.ChangeAt Go.RowKit

/-- Numbers as bytes. -/
def byt (zs : List Int) : List UInt8 := zs.map fun n => UInt8.ofNat n.toNat

theorem byt_length (zs : List Int) : (byt zs).length = zs.length := by simp [byt]

theorem came_has {w : World} {x : Addr} {len cap : Nat} {zs : List Int} (hl : len ≤ cap) (hm : cap ≤ maxLen) (hz : zs.length = cap)
    (hcell : ∀ i, i < zs.length → w.cell? (x.add i) = some (.int .u8 (zs.getD i 0))) (hwz : ∀ n ∈ zs, (Lit.int .u8 n).wf = true) :
    Has w (.slice (some x) len cap) (byt (zs.take len)) := by
  have hlen : (byt (zs.take len)).length = len := by rw [byt_length, List.length_take]; omega
  refine ⟨some x, cap, by rw [hlen], fun hp => ?_, (fun h => by cases h), by omega, hm⟩
  rw [hlen] at hp
  obtain ⟨b, o, spot⟩ := x
  have hc0 := hcell 0 (by omega)
  have hspot : spot = none := by simpa [Addr.add] using World.cell?_spot hc0
  subst hspot
  refine ⟨b, o, rfl, fun j hj => ?_⟩
  have hjl : j < len := by rw [hlen] at hj; exact hj
  have hc := hcell j (by omega)
  rw [Addr.add_lit] at hc
  rw [hc]
  have hjz : j < zs.length := by omega
  have e : (byt (zs.take len))[j] = UInt8.ofNat (zs[j]).toNat := by simp [byt]
  rw [e]
  have hw := bounds_u8 (hwz zs[j] (List.getElem_mem hjz))
  have e2 : zs.getD j 0 = zs[j] := by simp [List.getD, hjz]
  rw [e2, UInt8.toNat_ofNat']
  congr 2
  omega

end Go.Proofs.Ytcimpibendechaa
