/-
  The contract of the library's sort of numbers, at this program: laid by the kit's shelf, in plain words.
-/
import Derived.Shelf.Sort.Plain
import Derived.Test.YtbeggdahbhfhpaaDoorProg
namespace Go.Proofs
open Go.Shelf
def Tryd.lays189_ren : Go.Shelf.Ren := ⟨fun | 189 => 142 | 125 => 161 | 257 => 160 | 128 => 180 | 129 => 181 | 294 => 171 | 295 => 172 | 296 => 173 | 297 => 174 | 298 => 175 | 299 => 176 | 216 => 177 | 300 => 178 | 301 => 179 | 328 => 185 | 329 => 186 | 330 => 187 | 331 => 188 | 332 => 189 | 215 => 190 | 343 => 191 | n => n, fun | 28 => 22 | 3 => 3 | 46 => 222 | 0 => 0 | 51 => 194 | 53 => 69 | 4 => 4 | 183 => 269 | 182 => 268 | 131 => 171 | 5 => 5 | 9 => 9 | 218 => 277 | 222 => 280 | 228 => 283 | 229 => 102 | n => n, fun | n => n⟩
theorem Tryd.lays189 : Go.Proofs.Lays.n189 Tryd.prog Tryd.lays189_ren := {
  mixed := by kernel_rfl
  f125 := Tryd.func161.trans (congrArg some (by kernel_rfl))
  f128 := Tryd.func180.trans (congrArg some (by kernel_rfl))
  f129 := Tryd.func181.trans (congrArg some (by kernel_rfl))
  f189 := Tryd.func142.trans (congrArg some (by kernel_rfl))
  f215 := Tryd.func190.trans (congrArg some (by kernel_rfl))
  f216 := Tryd.func177.trans (congrArg some (by kernel_rfl))
  f257 := Tryd.func160.trans (congrArg some (by kernel_rfl))
  f294 := Tryd.func171.trans (congrArg some (by kernel_rfl))
  f295 := Tryd.func172.trans (congrArg some (by kernel_rfl))
  f296 := Tryd.func173.trans (congrArg some (by kernel_rfl))
  f297 := Tryd.func174.trans (congrArg some (by kernel_rfl))
  f298 := Tryd.func175.trans (congrArg some (by kernel_rfl))
  f299 := Tryd.func176.trans (congrArg some (by kernel_rfl))
  f300 := Tryd.func178.trans (congrArg some (by kernel_rfl))
  f301 := Tryd.func179.trans (congrArg some (by kernel_rfl))
  f328 := Tryd.func185.trans (congrArg some (by kernel_rfl))
  f329 := Tryd.func186.trans (congrArg some (by kernel_rfl))
  f330 := Tryd.func187.trans (congrArg some (by kernel_rfl))
  f331 := Tryd.func188.trans (congrArg some (by kernel_rfl))
  f332 := Tryd.func189.trans (congrArg some (by kernel_rfl))
  f343 := Tryd.func191.trans (congrArg some (by kernel_rfl))
  t0 := Tryd.underlying0
  a0 := Tryd.isAgg0
  z0 := Tryd.sizeOf0
  v0 := Tryd.zeroValue0
  t3 := Tryd.underlying3
  a3 := Tryd.isAgg3
  z3 := Tryd.sizeOf3
  v3 := Tryd.zeroValue3
  t4 := Tryd.underlying4
  a4 := Tryd.isAgg4
  z4 := Tryd.sizeOf4
  v4 := Tryd.zeroValue4
  t5 := Tryd.underlying5
  a5 := Tryd.isAgg5
  z5 := Tryd.sizeOf5
  v5 := Tryd.zeroValue5
  t9 := Tryd.underlying9
  a9 := Tryd.isAgg9
  z9 := Tryd.sizeOf9
  v9 := Tryd.zeroValue9
  t28 := Tryd.underlying22
  a28 := Tryd.isAgg22
  z28 := Tryd.sizeOf22
  v28 := Tryd.zeroValue22
  t46 := Tryd.underlying222
  a46 := Tryd.isAgg222
  z46 := Tryd.sizeOf222
  v46 := Tryd.zeroValue222
  t51 := Tryd.underlying194
  a51 := Tryd.isAgg194
  z51 := Tryd.sizeOf194
  v51 := Tryd.zeroValue194
  t53 := Tryd.underlying69
  a53 := Tryd.isAgg69
  z53 := Tryd.sizeOf69
  v53 := Tryd.zeroValue69
  t131 := Tryd.underlying171
  a131 := Tryd.isAgg171
  z131 := Tryd.sizeOf171
  v131 := Tryd.zeroValue171
  t182 := Tryd.underlying268
  a182 := Tryd.isAgg268
  z182 := Tryd.sizeOf268
  v182 := Tryd.zeroValue268
  t183 := Tryd.underlying269
  a183 := Tryd.isAgg269
  z183 := Tryd.sizeOf269
  v183 := Tryd.zeroValue269
  t218 := Tryd.underlying277
  a218 := Tryd.isAgg277
  z218 := Tryd.sizeOf277
  v218 := Tryd.zeroValue277
  t222 := Tryd.underlying280
  a222 := Tryd.isAgg280
  z222 := Tryd.sizeOf280
  v222 := Tryd.zeroValue280
  t228 := Tryd.underlying283
  a228 := Tryd.isAgg283
  z228 := Tryd.sizeOf283
  v228 := Tryd.zeroValue283
  t229 := Tryd.underlying102
  a229 := Tryd.isAgg102
  z229 := Tryd.sizeOf102
  v229 := Tryd.zeroValue102 }
open Go.Sort Go.RowKit in
theorem Tryd.slices_Sort_int (blk off cap : Nat) (zs : List Int) (w : World) (hH : Holds (Value.int .i64) w blk off zs.toArray) (hblk : blk < w.heap.size) (hsz : zs.length < 4611686018427387904) :
    Calls Tryd.prog 142 #[.slice (some ⟨blk, off, none⟩) zs.length cap] w fun e w' =>
      e = .returned (.tuple #[]) ∧ ∃ n os, w' = grow (putRow (Value.int .i64) (Sort.ahead w n) blk off (zs.mergeSort fun x y => decide (x ≤ y)).toArray) os := Any.slices_Sort_int Tryd.lays189 blk off cap zs w hH hblk hsz
end Go.Proofs
