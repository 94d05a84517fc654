/- The types of this translation, in short. -/
import Derived.Test.YtbnldepaebcojaaAb16
import Derived.Test.YtbnldepaebcojaaProg
namespace Go.Proofs.Ytbnldepaebcojaa
open Go Go.Ab

def tab : Tab
  | 1 => some ⟨.func, 1, 8, [.nilFunc], false⟩
  | 2 => some ⟨.int .i64, 1, 8, [.int .i64 0], false⟩
  | 3 => some ⟨.int .i64, 1, 8, [.int .i64 0], false⟩
  | 4 => some ⟨.bool, 1, 1, [.bool false], false⟩
  | 5 => some ⟨.int .u8, 1, 1, [.int .u8 0], false⟩
  | 7 => some ⟨.struct [(0, 2), (1, 3), (2, 4), (3, 6)], 4, 24, [.int .i64 0, .int .i64 0, .bool false, .int .u8 0], false⟩
  | 9 => some ⟨.string, 1, 16, [.string ByteArray.empty], false⟩
  | 12 => some ⟨.int .u64, 1, 8, [.int .u64 0], false⟩
  | 13 => some ⟨.struct [(0, 9), (1, 12)], 2, 24, [.string ByteArray.empty, .int .u64 0], false⟩
  | 18 => some ⟨.struct [(0, 17)], 1, 8, [.pointer none], false⟩
  | 20 => some ⟨.iface, 1, 16, [.nilIface], false⟩
  | 21 => some ⟨.int .i32, 1, 4, [.int .i32 0], false⟩
  | 22 => some ⟨.slice 5, 1, 24, [.slice none 0 0], false⟩
  | 23 => some ⟨.slice 3, 1, 24, [.slice none 0 0], false⟩
  | 24 => some ⟨.func, 1, 8, [.nilFunc], false⟩
  | 26 => some ⟨.func, 1, 8, [.nilFunc], false⟩
  | 27 => some ⟨.func, 1, 8, [.nilFunc], false⟩
  | 28 => some ⟨.func, 1, 8, [.nilFunc], false⟩
  | 29 => some ⟨.func, 1, 8, [.nilFunc], false⟩
  | 30 => some ⟨.func, 1, 8, [.nilFunc], false⟩
  | 31 => some ⟨.func, 1, 8, [.nilFunc], false⟩
  | 32 => some ⟨.func, 1, 8, [.nilFunc], false⟩
  | 33 => some ⟨.ptr 49, 1, 8, [.pointer none], false⟩
  | 34 => some ⟨.func, 1, 8, [.nilFunc], false⟩
  | 35 => some ⟨.func, 1, 8, [.nilFunc], false⟩
  | 36 => some ⟨.func, 1, 8, [.nilFunc], false⟩
  | 37 => some ⟨.func, 1, 8, [.nilFunc], false⟩
  | 38 => some ⟨.func, 1, 8, [.nilFunc], false⟩
  | 39 => some ⟨.func, 1, 8, [.nilFunc], false⟩
  | 40 => some ⟨.func, 1, 8, [.nilFunc], false⟩
  | 41 => some ⟨.slice 57, 1, 24, [.slice none 0 0], false⟩
  | 42 => some ⟨.func, 1, 8, [.nilFunc], false⟩
  | 43 => some ⟨.func, 1, 8, [.nilFunc], false⟩
  | 44 => some ⟨.iface, 1, 16, [.nilIface], false⟩
  | 45 => some ⟨.iface, 1, 16, [.nilIface], false⟩
  | 47 => some ⟨.func, 1, 8, [.nilFunc], false⟩
  | 48 => some ⟨.struct [(0, 22), (1, 3)], 2, 32, [.slice none 0 0, .int .i64 0], false⟩
  | 49 => some ⟨.struct [(0, 22), (1, 3)], 2, 32, [.slice none 0 0, .int .i64 0], false⟩
  | 50 => some ⟨.func, 1, 8, [.nilFunc], false⟩
  | 51 => some ⟨.slice 9, 1, 24, [.slice none 0 0], false⟩
  | 52 => some ⟨.func, 1, 8, [.nilFunc], false⟩
  | 53 => some ⟨.ptr 55, 1, 8, [.pointer none], false⟩
  | 54 => some ⟨.struct [(0, 53), (1, 22)], 2, 32, [.pointer none, .slice none 0 0], false⟩
  | 55 => some ⟨.struct [(0, 53), (1, 22)], 2, 32, [.pointer none, .slice none 0 0], false⟩
  | 56 => some ⟨.iface, 1, 16, [.nilIface], false⟩
  | 57 => some ⟨.iface, 1, 16, [.nilIface], false⟩
  | 59 => some ⟨.func, 1, 8, [.nilFunc], false⟩
  | 60 => some ⟨.func, 1, 8, [.nilFunc], false⟩
  | 61 => some ⟨.struct [(0, 3)], 1, 8, [.int .i64 0], false⟩
  | 62 => some ⟨.struct [(0, 3)], 1, 8, [.int .i64 0], true⟩
  | 63 => some ⟨.struct [], 0, 0, [], false⟩
  | 64 => some ⟨.struct [], 0, 0, [], true⟩
  | 66 => some ⟨.func, 1, 8, [.nilFunc], false⟩
  | 67 => some ⟨.struct [(0, 23), (1, 23)], 2, 48, [.slice none 0 0, .slice none 0 0], false⟩
  | 68 => some ⟨.struct [(0, 23), (1, 23)], 2, 48, [.slice none 0 0, .slice none 0 0], false⟩
  | 69 => some ⟨.func, 1, 8, [.nilFunc], false⟩
  | 70 => some ⟨.struct [(0, 9)], 1, 16, [.string ByteArray.empty], false⟩
  | 71 => some ⟨.struct [(0, 9)], 1, 16, [.string ByteArray.empty], true⟩
  | 72 => some ⟨.func, 1, 8, [.nilFunc], false⟩
  | 73 => some ⟨.ptr 5, 1, 8, [.pointer none], false⟩
  | 74 => some ⟨.ptr 68, 1, 8, [.pointer none], false⟩
  | 75 => some ⟨.func, 1, 8, [.nilFunc], false⟩
  | 77 => some ⟨.func, 1, 8, [.nilFunc], false⟩
  | 78 => some ⟨.func, 1, 8, [.nilFunc], false⟩
  | 79 => some ⟨.struct [(0, 17), (1, 17), (2, 17), (3, 9)], 4, 40, [.pointer none, .pointer none, .pointer none, .string ByteArray.empty], false⟩
  | 81 => some ⟨.array 0 16, 0, 0, [], false⟩
  | 82 => some ⟨.struct [(0, 81)], 0, 0, [], false⟩
  | 84 => some ⟨.int .u32, 1, 4, [.int .u32 0], false⟩
  | 87 => some ⟨.func, 1, 8, [.nilFunc], false⟩
  | 90 => some ⟨.struct [(0, 12), (1, 12), (2, 84), (3, 85), (4, 5), (5, 5), (6, 86), (7, 87), (8, 73), (9, 88), (10, 89)], 11, 48, [.int .u64 0, .int .u64 0, .int .u32 0, .int .u8 0, .int .u8 0, .int .u8 0, .int .u8 0, .nilFunc, .pointer none, .int .i32 0, .int .i32 0], false⟩
  | _ => none

theorem info1 : Try.prog.info? 1 = some Try.t1 := by kernel_rfl
theorem info2 : Try.prog.info? 2 = some Try.t2 := by kernel_rfl
theorem info3 : Try.prog.info? 3 = some Try.t3 := by kernel_rfl
theorem info4 : Try.prog.info? 4 = some Try.t4 := by kernel_rfl
theorem info5 : Try.prog.info? 5 = some Try.t5 := by kernel_rfl
theorem info7 : Try.prog.info? 7 = some Try.t7 := by kernel_rfl
theorem info9 : Try.prog.info? 9 = some Try.t9 := by kernel_rfl
theorem info12 : Try.prog.info? 12 = some Try.t12 := by kernel_rfl
theorem info13 : Try.prog.info? 13 = some Try.t13 := by kernel_rfl
theorem info18 : Try.prog.info? 18 = some Try.t18 := by kernel_rfl
theorem info20 : Try.prog.info? 20 = some Try.t20 := by kernel_rfl
theorem info21 : Try.prog.info? 21 = some Try.t21 := by kernel_rfl
theorem info22 : Try.prog.info? 22 = some Try.t22 := by kernel_rfl
theorem info23 : Try.prog.info? 23 = some Try.t23 := by kernel_rfl
theorem info24 : Try.prog.info? 24 = some Try.t24 := by kernel_rfl
theorem info26 : Try.prog.info? 26 = some Try.t26 := by kernel_rfl
theorem info27 : Try.prog.info? 27 = some Try.t27 := by kernel_rfl
theorem info28 : Try.prog.info? 28 = some Try.t28 := by kernel_rfl
theorem info29 : Try.prog.info? 29 = some Try.t29 := by kernel_rfl
theorem info30 : Try.prog.info? 30 = some Try.t30 := by kernel_rfl
theorem info31 : Try.prog.info? 31 = some Try.t31 := by kernel_rfl
theorem info32 : Try.prog.info? 32 = some Try.t32 := by kernel_rfl
theorem info33 : Try.prog.info? 33 = some Try.t33 := by kernel_rfl
theorem info34 : Try.prog.info? 34 = some Try.t34 := by kernel_rfl
theorem info35 : Try.prog.info? 35 = some Try.t35 := by kernel_rfl
theorem info36 : Try.prog.info? 36 = some Try.t36 := by kernel_rfl
theorem info37 : Try.prog.info? 37 = some Try.t37 := by kernel_rfl
theorem info38 : Try.prog.info? 38 = some Try.t38 := by kernel_rfl
theorem info39 : Try.prog.info? 39 = some Try.t39 := by kernel_rfl
theorem info40 : Try.prog.info? 40 = some Try.t40 := by kernel_rfl
theorem info41 : Try.prog.info? 41 = some Try.t41 := by kernel_rfl
theorem info42 : Try.prog.info? 42 = some Try.t42 := by kernel_rfl
theorem info43 : Try.prog.info? 43 = some Try.t43 := by kernel_rfl
theorem info44 : Try.prog.info? 44 = some Try.t44 := by kernel_rfl
theorem info45 : Try.prog.info? 45 = some Try.t45 := by kernel_rfl
theorem info47 : Try.prog.info? 47 = some Try.t47 := by kernel_rfl
theorem info48 : Try.prog.info? 48 = some Try.t48 := by kernel_rfl
theorem info49 : Try.prog.info? 49 = some Try.t49 := by kernel_rfl
theorem info50 : Try.prog.info? 50 = some Try.t50 := by kernel_rfl
theorem info51 : Try.prog.info? 51 = some Try.t51 := by kernel_rfl
theorem info52 : Try.prog.info? 52 = some Try.t52 := by kernel_rfl
theorem info53 : Try.prog.info? 53 = some Try.t53 := by kernel_rfl
theorem info54 : Try.prog.info? 54 = some Try.t54 := by kernel_rfl
theorem info55 : Try.prog.info? 55 = some Try.t55 := by kernel_rfl
theorem info56 : Try.prog.info? 56 = some Try.t56 := by kernel_rfl
theorem info57 : Try.prog.info? 57 = some Try.t57 := by kernel_rfl
theorem info59 : Try.prog.info? 59 = some Try.t59 := by kernel_rfl
theorem info60 : Try.prog.info? 60 = some Try.t60 := by kernel_rfl
theorem info61 : Try.prog.info? 61 = some Try.t61 := by kernel_rfl
theorem info62 : Try.prog.info? 62 = some Try.t62 := by kernel_rfl
theorem info63 : Try.prog.info? 63 = some Try.t63 := by kernel_rfl
theorem info64 : Try.prog.info? 64 = some Try.t64 := by kernel_rfl
theorem info66 : Try.prog.info? 66 = some Try.t66 := by kernel_rfl
theorem info67 : Try.prog.info? 67 = some Try.t67 := by kernel_rfl
theorem info68 : Try.prog.info? 68 = some Try.t68 := by kernel_rfl
theorem info69 : Try.prog.info? 69 = some Try.t69 := by kernel_rfl
theorem info70 : Try.prog.info? 70 = some Try.t70 := by kernel_rfl
theorem info71 : Try.prog.info? 71 = some Try.t71 := by kernel_rfl
theorem info72 : Try.prog.info? 72 = some Try.t72 := by kernel_rfl
theorem info73 : Try.prog.info? 73 = some Try.t73 := by kernel_rfl
theorem info74 : Try.prog.info? 74 = some Try.t74 := by kernel_rfl
theorem info75 : Try.prog.info? 75 = some Try.t75 := by kernel_rfl
theorem info77 : Try.prog.info? 77 = some Try.t77 := by kernel_rfl
theorem info78 : Try.prog.info? 78 = some Try.t78 := by kernel_rfl
theorem info79 : Try.prog.info? 79 = some Try.t79 := by kernel_rfl
theorem info81 : Try.prog.info? 81 = some Try.t81 := by kernel_rfl
theorem info82 : Try.prog.info? 82 = some Try.t82 := by kernel_rfl
theorem info84 : Try.prog.info? 84 = some Try.t84 := by kernel_rfl
theorem info87 : Try.prog.info? 87 = some Try.t87 := by kernel_rfl
theorem info90 : Try.prog.info? 90 = some Try.t90 := by kernel_rfl

theorem tabOk : TabOk Try.prog tab := by
  intro t i h
  unfold tab at h
  split at h
  · cases h; exact ⟨_, _, _, Try.underlying1, ⟨_, _, _, rfl⟩, info1, rfl, rfl, rfl, rfl, fun h => by cases h⟩
  · cases h; exact ⟨_, _, _, Try.underlying2, rfl, info2, rfl, rfl, rfl, rfl, fun h => by cases h⟩
  · cases h; exact ⟨_, _, _, Try.underlying3, rfl, info3, rfl, rfl, rfl, rfl, fun h => by cases h⟩
  · cases h; exact ⟨_, _, _, Try.underlying4, rfl, info4, rfl, rfl, rfl, rfl, fun h => by cases h⟩
  · cases h; exact ⟨_, _, _, Try.underlying5, rfl, info5, rfl, rfl, rfl, rfl, fun h => by cases h⟩
  · cases h; exact ⟨_, _, _, Try.underlying7, ⟨_, rfl, rfl⟩, info7, rfl, rfl, rfl, rfl, fun h => by cases h⟩
  · cases h; exact ⟨_, _, _, Try.underlying9, rfl, info9, rfl, rfl, rfl, rfl, fun h => by cases h⟩
  · cases h; exact ⟨_, _, _, Try.underlying12, rfl, info12, rfl, rfl, rfl, rfl, fun h => by cases h⟩
  · cases h; exact ⟨_, _, _, Try.underlying13, ⟨_, rfl, rfl⟩, info13, rfl, rfl, rfl, rfl, fun h => by cases h⟩
  · cases h; exact ⟨_, _, _, Try.underlying18, ⟨_, rfl, rfl⟩, info18, rfl, rfl, rfl, rfl, fun h => by cases h⟩
  · cases h; exact ⟨_, _, _, Try.underlying20, ⟨_, rfl⟩, info20, rfl, rfl, rfl, rfl, fun h => by cases h⟩
  · cases h; exact ⟨_, _, _, Try.underlying21, rfl, info21, rfl, rfl, rfl, rfl, fun h => by cases h⟩
  · cases h; exact ⟨_, _, _, Try.underlying22, rfl, info22, rfl, rfl, rfl, rfl, fun h => by cases h⟩
  · cases h; exact ⟨_, _, _, Try.underlying23, rfl, info23, rfl, rfl, rfl, rfl, fun h => by cases h⟩
  · cases h; exact ⟨_, _, _, Try.underlying24, ⟨_, _, _, rfl⟩, info24, rfl, rfl, rfl, rfl, fun h => by cases h⟩
  · cases h; exact ⟨_, _, _, Try.underlying26, ⟨_, _, _, rfl⟩, info26, rfl, rfl, rfl, rfl, fun h => by cases h⟩
  · cases h; exact ⟨_, _, _, Try.underlying27, ⟨_, _, _, rfl⟩, info27, rfl, rfl, rfl, rfl, fun h => by cases h⟩
  · cases h; exact ⟨_, _, _, Try.underlying28, ⟨_, _, _, rfl⟩, info28, rfl, rfl, rfl, rfl, fun h => by cases h⟩
  · cases h; exact ⟨_, _, _, Try.underlying29, ⟨_, _, _, rfl⟩, info29, rfl, rfl, rfl, rfl, fun h => by cases h⟩
  · cases h; exact ⟨_, _, _, Try.underlying30, ⟨_, _, _, rfl⟩, info30, rfl, rfl, rfl, rfl, fun h => by cases h⟩
  · cases h; exact ⟨_, _, _, Try.underlying31, ⟨_, _, _, rfl⟩, info31, rfl, rfl, rfl, rfl, fun h => by cases h⟩
  · cases h; exact ⟨_, _, _, Try.underlying32, ⟨_, _, _, rfl⟩, info32, rfl, rfl, rfl, rfl, fun h => by cases h⟩
  · cases h; exact ⟨_, _, _, Try.underlying33, rfl, info33, rfl, rfl, rfl, rfl, fun h => by cases h⟩
  · cases h; exact ⟨_, _, _, Try.underlying34, ⟨_, _, _, rfl⟩, info34, rfl, rfl, rfl, rfl, fun h => by cases h⟩
  · cases h; exact ⟨_, _, _, Try.underlying35, ⟨_, _, _, rfl⟩, info35, rfl, rfl, rfl, rfl, fun h => by cases h⟩
  · cases h; exact ⟨_, _, _, Try.underlying36, ⟨_, _, _, rfl⟩, info36, rfl, rfl, rfl, rfl, fun h => by cases h⟩
  · cases h; exact ⟨_, _, _, Try.underlying37, ⟨_, _, _, rfl⟩, info37, rfl, rfl, rfl, rfl, fun h => by cases h⟩
  · cases h; exact ⟨_, _, _, Try.underlying38, ⟨_, _, _, rfl⟩, info38, rfl, rfl, rfl, rfl, fun h => by cases h⟩
  · cases h; exact ⟨_, _, _, Try.underlying39, ⟨_, _, _, rfl⟩, info39, rfl, rfl, rfl, rfl, fun h => by cases h⟩
  · cases h; exact ⟨_, _, _, Try.underlying40, ⟨_, _, _, rfl⟩, info40, rfl, rfl, rfl, rfl, fun h => by cases h⟩
  · cases h; exact ⟨_, _, _, Try.underlying41, rfl, info41, rfl, rfl, rfl, rfl, fun h => by cases h⟩
  · cases h; exact ⟨_, _, _, Try.underlying42, ⟨_, _, _, rfl⟩, info42, rfl, rfl, rfl, rfl, fun h => by cases h⟩
  · cases h; exact ⟨_, _, _, Try.underlying43, ⟨_, _, _, rfl⟩, info43, rfl, rfl, rfl, rfl, fun h => by cases h⟩
  · cases h; exact ⟨_, _, _, Try.underlying44, ⟨_, rfl⟩, info44, rfl, rfl, rfl, rfl, fun h => by cases h⟩
  · cases h; exact ⟨_, _, _, Try.underlying45, ⟨_, rfl⟩, info45, rfl, rfl, rfl, rfl, fun h => by cases h⟩
  · cases h; exact ⟨_, _, _, Try.underlying47, ⟨_, _, _, rfl⟩, info47, rfl, rfl, rfl, rfl, fun h => by cases h⟩
  · cases h; exact ⟨_, _, _, Try.underlying48, ⟨_, rfl, rfl⟩, info48, rfl, rfl, rfl, rfl, fun h => by cases h⟩
  · cases h; exact ⟨_, _, _, Try.underlying49, ⟨_, rfl, rfl⟩, info49, rfl, rfl, rfl, rfl, fun h => by cases h⟩
  · cases h; exact ⟨_, _, _, Try.underlying50, ⟨_, _, _, rfl⟩, info50, rfl, rfl, rfl, rfl, fun h => by cases h⟩
  · cases h; exact ⟨_, _, _, Try.underlying51, rfl, info51, rfl, rfl, rfl, rfl, fun h => by cases h⟩
  · cases h; exact ⟨_, _, _, Try.underlying52, ⟨_, _, _, rfl⟩, info52, rfl, rfl, rfl, rfl, fun h => by cases h⟩
  · cases h; exact ⟨_, _, _, Try.underlying53, rfl, info53, rfl, rfl, rfl, rfl, fun h => by cases h⟩
  · cases h; exact ⟨_, _, _, Try.underlying54, ⟨_, rfl, rfl⟩, info54, rfl, rfl, rfl, rfl, fun h => by cases h⟩
  · cases h; exact ⟨_, _, _, Try.underlying55, ⟨_, rfl, rfl⟩, info55, rfl, rfl, rfl, rfl, fun h => by cases h⟩
  · cases h; exact ⟨_, _, _, Try.underlying56, ⟨_, rfl⟩, info56, rfl, rfl, rfl, rfl, fun h => by cases h⟩
  · cases h; exact ⟨_, _, _, Try.underlying57, ⟨_, rfl⟩, info57, rfl, rfl, rfl, rfl, fun h => by cases h⟩
  · cases h; exact ⟨_, _, _, Try.underlying59, ⟨_, _, _, rfl⟩, info59, rfl, rfl, rfl, rfl, fun h => by cases h⟩
  · cases h; exact ⟨_, _, _, Try.underlying60, ⟨_, _, _, rfl⟩, info60, rfl, rfl, rfl, rfl, fun h => by cases h⟩
  · cases h; exact ⟨_, _, _, Try.underlying61, ⟨_, rfl, rfl⟩, info61, rfl, rfl, rfl, rfl, fun h => by cases h⟩
  · cases h; exact ⟨_, _, _, Try.underlying62, ⟨_, rfl, rfl⟩, info62, rfl, rfl, rfl, rfl, fun _ => ⟨by kernel_rfl, by kernel_rfl, by kernel_rfl⟩⟩
  · cases h; exact ⟨_, _, _, Try.underlying63, ⟨_, rfl, rfl⟩, info63, rfl, rfl, rfl, rfl, fun h => by cases h⟩
  · cases h; exact ⟨_, _, _, Try.underlying64, ⟨_, rfl, rfl⟩, info64, rfl, rfl, rfl, rfl, fun _ => ⟨by kernel_rfl, by kernel_rfl, by kernel_rfl⟩⟩
  · cases h; exact ⟨_, _, _, Try.underlying66, ⟨_, _, _, rfl⟩, info66, rfl, rfl, rfl, rfl, fun h => by cases h⟩
  · cases h; exact ⟨_, _, _, Try.underlying67, ⟨_, rfl, rfl⟩, info67, rfl, rfl, rfl, rfl, fun h => by cases h⟩
  · cases h; exact ⟨_, _, _, Try.underlying68, ⟨_, rfl, rfl⟩, info68, rfl, rfl, rfl, rfl, fun h => by cases h⟩
  · cases h; exact ⟨_, _, _, Try.underlying69, ⟨_, _, _, rfl⟩, info69, rfl, rfl, rfl, rfl, fun h => by cases h⟩
  · cases h; exact ⟨_, _, _, Try.underlying70, ⟨_, rfl, rfl⟩, info70, rfl, rfl, rfl, rfl, fun h => by cases h⟩
  · cases h; exact ⟨_, _, _, Try.underlying71, ⟨_, rfl, rfl⟩, info71, rfl, rfl, rfl, rfl, fun _ => ⟨by kernel_rfl, by kernel_rfl, by kernel_rfl⟩⟩
  · cases h; exact ⟨_, _, _, Try.underlying72, ⟨_, _, _, rfl⟩, info72, rfl, rfl, rfl, rfl, fun h => by cases h⟩
  · cases h; exact ⟨_, _, _, Try.underlying73, rfl, info73, rfl, rfl, rfl, rfl, fun h => by cases h⟩
  · cases h; exact ⟨_, _, _, Try.underlying74, rfl, info74, rfl, rfl, rfl, rfl, fun h => by cases h⟩
  · cases h; exact ⟨_, _, _, Try.underlying75, ⟨_, _, _, rfl⟩, info75, rfl, rfl, rfl, rfl, fun h => by cases h⟩
  · cases h; exact ⟨_, _, _, Try.underlying77, ⟨_, _, _, rfl⟩, info77, rfl, rfl, rfl, rfl, fun h => by cases h⟩
  · cases h; exact ⟨_, _, _, Try.underlying78, ⟨_, _, _, rfl⟩, info78, rfl, rfl, rfl, rfl, fun h => by cases h⟩
  · cases h; exact ⟨_, _, _, Try.underlying79, ⟨_, rfl, rfl⟩, info79, rfl, rfl, rfl, rfl, fun h => by cases h⟩
  · cases h; exact ⟨_, _, _, Try.underlying81, rfl, info81, rfl, rfl, rfl, rfl, fun h => by cases h⟩
  · cases h; exact ⟨_, _, _, Try.underlying82, ⟨_, rfl, rfl⟩, info82, rfl, rfl, rfl, rfl, fun h => by cases h⟩
  · cases h; exact ⟨_, _, _, Try.underlying84, rfl, info84, rfl, rfl, rfl, rfl, fun h => by cases h⟩
  · cases h; exact ⟨_, _, _, Try.underlying87, ⟨_, _, _, rfl⟩, info87, rfl, rfl, rfl, rfl, fun h => by cases h⟩
  · cases h; exact ⟨_, _, _, Try.underlying90, ⟨_, rfl, rfl⟩, info90, rfl, rfl, rfl, rfl, fun h => by cases h⟩
  · cases h
end Go.Proofs.Ytbnldepaebcojaa
