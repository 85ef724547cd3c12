/-
  A result of a code and parts that lies in a block of its own.
-/
import Derived.Test.YtoabohllphoioaaG23
namespace Go.Proofs.Ytoabohllphoioaa
open Go.RowKit
structure GotS (w1 : World) (C : Int) (L : List Pt) (g : Nat) (A : Option Addr) (c : Nat) (fv : List Nat) (wc : World) : Prop where
  blk : wc.heap[g]? = some (.cells #[.int .i64 C, .slice A L.length c] 72 (0, 0))
  rd : RdP wc (.slice A L.length c) L fv
  nf : NF wc fv
  fr : From w1.heap.size fv
  nd : fv.Nodup
  lo : w1.heap.size ≤ g
  ap : g ∉ fv
  bel : Below w1.heap.size w1 wc
theorem gots_new {w1 x : World} {C : Int} {L : List Pt} {A : Option Addr} {c : Nat} {fv : List Nat} (hr : RdP x (.slice A L.length c) L fv) (hn : NF x fv) (hf : From w1.heap.size fv) (hd : fv.Nodup) (hb : Below w1.heap.size w1 x) :
    GotS w1 C L x.heap.size A c fv (x.alloc (.cells #[.int .i64 C, .slice A L.length c] 72)) :=
  ⟨heap_new x _ rfl, hr.alloc _, hn.keep fun b hb => Below.heap_alloc _ _ _ (hr.lt b hb), hf, hd, hb.size, fun h => by have := hr.lt _ h; omega, hb.alloc hb.size _⟩
theorem gots_set {w1 x : World} {C : Int} {L : List Pt} {A : Option Addr} {c g : Nat} {fv : List Nat} {u v : Value} (hg : x.heap[g]? = some (.cells #[u, v] 72 (0, 0))) (hlo : w1.heap.size ≤ g) (hap : From (g + 1) fv)
    (hr : RdP x (.slice A L.length c) L fv) (hn : NF x fv) (hd : fv.Nodup) (hb : Below w1.heap.size w1 x) :
    GotS w1 C L g A c fv ((x.setCell ⟨g, 0, none⟩ (.int .i64 C)).setCell ⟨g, 1, none⟩ (.slice A L.length c)) := by
  have hbut := But.two x g 0 1 (.int .i64 C) (.slice A L.length c)
  have hx : ∀ b ∈ fv, b ∉ [g] := fun b hm h => by have := hap b hm; simp at h; omega
  exact ⟨by simp [World.setCell, Array.getElem?_modify, hg], hr.but hbut hx, hn.but hbut hr.lt hx, fun b hm => by have := hap b hm; omega, hd, hlo, fun h => by have := hap _ h; omega, hb.trans (hbut.below hb.size (by intro b hm; simp at hm; omega))⟩
end Go.Proofs.Ytoabohllphoioaa
