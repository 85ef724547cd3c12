/-
  A result of a code and rows that lies in a block of its own.
-/
import Derived.Test.YtoabohllphoioaaG1
import Derived.Test.YtoabohllphoioaaBase
namespace Go.Proofs.Ytoabohllphoioaa
open Go.RowKit
/-- A block g of its own that holds a code and rows in memory of their own, made since w1. -/
structure Got6 (w1 : World) (C : Int) (L : List R) (g : Nat) (A : Option Addr) (c : Nat) (fv : List Nat) (wc : World) : Prop where
  blk : wc.heap[g]? = some (.cells #[.int .i64 C, .slice A L.length c] 31 (0, 0))
  rd : Rd wc 4 (.slice A L.length c) (rcs L) fv
  nf : NF wc fv
  fr : From w1.heap.size fv
  lo : w1.heap.size ≤ g
  ap : g ∉ fv
  bel : Below w1.heap.size w1 wc
theorem got6_new {w1 x : World} {C : Int} {L : List R} {A : Option Addr} {c : Nat} {fv : List Nat} (hr : Rd x 4 (.slice A L.length c) (rcs L) fv) (hn : NF x fv) (hf : From w1.heap.size fv) (hb : Below w1.heap.size w1 x) :
    Got6 w1 C L x.heap.size A c fv (x.alloc (.cells #[.int .i64 C, .slice A L.length c] 31)) :=
  ⟨heap_new x _ rfl, hr.alloc _, hn.keep fun b hb => Below.heap_alloc _ _ _ (hr.lt b hb), hf, hb.size, fun h => by have := hr.lt _ h; omega, hb.alloc hb.size _⟩
theorem got6_set {w1 x : World} {C : Int} {L : List R} {A : Option Addr} {c g : Nat} {fv : List Nat} {u v : Value} (hg : x.heap[g]? = some (.cells #[u, v] 31 (0, 0))) (hlo : w1.heap.size ≤ g) (hap : From (g + 1) fv)
    (hr : Rd x 4 (.slice A L.length c) (rcs L) fv) (hn : NF x fv) (hb : Below w1.heap.size w1 x) :
    Got6 w1 C L g A c fv ((x.setCell ⟨g, 0, none⟩ (.int .i64 C)).setCell ⟨g, 1, none⟩ (.slice A L.length c)) := by
  have hbut := But.two x g 0 1 (.int .i64 C) (.slice A L.length c)
  have hd : ∀ b ∈ fv, b ∉ [g] := fun b hm h => by have := hap b hm; simp at h; omega
  exact ⟨by simp [World.setCell, Array.getElem?_modify, hg], hr.but hbut hd, hn.but hbut hr.lt hd, fun b hm => by have := hap b hm; omega, hlo, fun h => by have := hap _ h; omega, hb.trans (hbut.below hb.size (by intro b hm; simp at hm; omega))⟩
end Go.Proofs.Ytoabohllphoioaa
