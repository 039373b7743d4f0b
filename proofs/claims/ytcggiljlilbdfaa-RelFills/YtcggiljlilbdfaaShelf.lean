/-

-/
import Derived.Test.YtcggiljlilbdfaaProg
import Derived.Shelf.Strings.Trim
import Derived.Shelf.Strings.Cut
import Derived.Shelf.Strings.IndexAnyAll
import Derived.Shelf.Strings.Prefix
import Derived.Shelf.Strconv.Itoa4

