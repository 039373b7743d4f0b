/-
  No contract of the library's shelf is wanted here.
-/
import Derived.Test.YtjhmbkdkjgjoaaaProg
import Derived.Lib.Bytealg
import Derived.Lib.Small

