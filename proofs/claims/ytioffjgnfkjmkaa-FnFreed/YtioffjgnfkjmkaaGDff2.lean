/-
  Nothing is wanted here.
-/
import Derived.Test.YtioffjgnfkjmkaaGDff1
import Derived.Test.YtioffjgnfkjmkaaGTask4
import Derived.Test.YtioffjgnfkjmkaaGPure1
import Derived.Test.YtioffjgnfkjmkaaGBase1
namespace Go.Proofs.Ytioffjgnfkjmkaa
end Go.Proofs.Ytioffjgnfkjmkaa
